package nfa_test

import (
	"math/big"
	"math/bits"
	"slices"

	"rotulus/api"
)

// The model goes by the language itself: from a set of places a pattern leads to a set of places. It makes no machine, and shares no code with the program. Its texts are at most 60 signs long.

// places is a set of them.
type places uint64

// list is the places, rising.
func (p places) list() []int {
	var out []int
	for ; p != 0; p &= p - 1 {
		out = append(out, bits.TrailingZeros64(uint64(p)))
	}
	return out
}

// leads tells where n leads to in l from the places of from.
func leads(n api.Node, l []rune, from places) places {
	switch n.Kind {
	case api.NSet:
		var to places
		for _, p := range from.list() {
			if p < len(l) && holds(n, l[p]) {
				to |= 1 << (p + 1)
			}
		}
		return to
	case api.NBegin:
		return from & 1
	case api.NEnd:
		return from & (1 << len(l))
	case api.NCat:
		for _, kid := range n.Kids {
			from = leads(kid, l, from)
		}
		return from
	case api.NAlt:
		var to places
		for _, kid := range n.Kids {
			to |= leads(kid, l, from)
		}
		return to
	}
	return leadsTimes(n, l, from)
}

// leadsTimes is leads of a repeat.
func leadsTimes(n api.Node, l []rune, from places) places {
	for range n.Min {
		from = leads(n.Kids[0], l, from)
	}
	to := from
	for times := n.Min; times != n.Max; times++ {
		from = leads(n.Kids[0], l, from)
		if n.Max == -1 && to|from == to {
			break // nor does it lead anywhere else from there
		}
		to |= from
		if n.Max == -1 {
			from = to
		}
	}
	return to
}

// holds tells whether sign is of the set n.
func holds(n api.Node, sign rune) bool {
	in := slices.ContainsFunc(n.Set, func(x api.Range) bool { return x.Lo <= sign && sign <= x.Hi })
	return in != n.Not
}

// modelEnds is Ends.
func modelEnds(n api.Node, l []rune, at int) []int {
	if at < 0 || at > len(l) {
		return nil
	}
	return leads(n, l, 1<<at).list()
}

// modelWeight is the weight, which no number bounds.
func modelWeight(n api.Node) *big.Int {
	all := new(big.Int)
	for _, kid := range n.Kids {
		all.Add(all, modelWeight(kid))
	}
	more := int64(1)
	if n.Kind == api.NCat {
		more = 0
	}
	if n.Kind == api.NRep {
		times := int64(n.Max)
		if n.Max == -1 {
			times = int64(n.Min) + 1
		}
		all.Mul(all, big.NewInt(times))
	}
	return all.Add(all, big.NewInt(more))
}
