package regex

import (
	"slices"

	"rotulus/api"
)

// pair is two nodes that are to be the same.
type pair struct{ a, b *api.Node }

// kin leads from a node to another one that it is to be the same as, and so on up to the head of them all, which leads to none.
type kin map[*api.Node]*api.Node

// Eq tells whether a and b are the same pattern, of whatever nodes they are.
func Eq(a, b api.Node) bool {
	// A list may hold itself, however deep: no two nodes are gone into that are of one kin already, and what waits is a list, so that no depth is too great.
	met := kin{}
	waiting := []pair{{&a, &b}}
	for len(waiting) > 0 {
		last := len(waiting) - 1
		next := waiting[last]
		waiting = waiting[:last]
		if !sameAlone(next.a, next.b) {
			return false
		}
		if len(next.a.Kids) == 0 || !met.join(next.a, next.b) {
			continue
		}
		for i := range next.a.Kids {
			waiting = append(waiting, pair{&next.a.Kids[i], &next.b.Kids[i]})
		}
	}
	return true
}

// sameAlone tells whether a and b are the same, whatever their Kids are.
func sameAlone(a, b *api.Node) bool {
	return a.Kind == b.Kind && a.Not == b.Not && a.Min == b.Min && a.Max == b.Max &&
		len(a.Kids) == len(b.Kids) && slices.Equal(a.Set, b.Set)
}

// head tells the head of n's kin.
func (k kin) head(n *api.Node) *api.Node {
	for k[n] != nil {
		if further := k[k[n]]; further != nil {
			k[n] = further // the next one who asks has half the way
		}
		n = k[n]
	}
	return n
}

// join makes one kin of those of a and b; false: it was one already.
func (k kin) join(a, b *api.Node) bool {
	a, b = k.head(a), k.head(b)
	if a == b {
		return false
	}
	k[a] = b
	return true
}
