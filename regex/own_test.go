package regex_test

import (
	"math/rand"
	"slices"
	"testing"

	"rotulus/api"
	"rotulus/regex"
)

// ownNode is a copy of n that shares no list with it.
func ownNode(n api.Node) api.Node {
	n.Set, n.Kids = slices.Clone(n.Set), slices.Clone(n.Kids)
	for i, kid := range n.Kids {
		n.Kids[i] = ownNode(kid)
	}
	return n
}

// roomyNode is a copy of n with spare room behind each list.
func roomyNode(n api.Node) api.Node {
	n.Set = append(slices.Clone(n.Set), api.Range{Lo: 'x', Hi: 'y'}, api.Range{Lo: 'z', Hi: 'z'})[:len(n.Set)]
	n.Kids = append(slices.Clone(n.Kids), begin, one('x'))[:len(n.Kids)]
	for i, kid := range n.Kids {
		n.Kids[i] = roomyNode(kid)
	}
	return n
}

// wholeNode is a copy of n, in which what is spare stands in the lists too.
func wholeNode(n api.Node) api.Node {
	n.Set, n.Kids = slices.Clone(n.Set[:cap(n.Set)]), slices.Clone(n.Kids[:cap(n.Kids)])
	for i, kid := range n.Kids {
		n.Kids[i] = wholeNode(kid)
	}
	return n
}

// lists are all lists of a node, with their spare room.
type lists struct {
	sets [][]api.Range
	kids [][]api.Node
}

// listsOf are the lists of n and of all nodes within it.
func listsOf(n api.Node) lists {
	var all lists
	var walk func(api.Node)
	walk = func(n api.Node) {
		all.sets = append(all.sets, n.Set[:cap(n.Set)])
		all.kids = append(all.kids, n.Kids[:cap(n.Kids)])
		for _, kid := range n.Kids {
			walk(kid)
		}
	}
	walk(n)
	return all
}

// image is what stands in the lists now, nodes without their own lists.
func (l lists) image() (sets [][]api.Range, kids [][]api.Node) {
	for _, set := range l.sets {
		sets = append(sets, slices.Clone(set))
	}
	for _, list := range l.kids {
		list = slices.Clone(list)
		for i := range list {
			list[i].Set, list[i].Kids = nil, nil
		}
		kids = append(kids, list)
	}
	return sets, kids
}

// spoilSet writes into a list.
func spoilSet(l []api.Range) {
	for i := range l {
		l[i] = api.Range{Lo: -7, Hi: -8}
	}
}

// spoilKids writes into a list.
func spoilKids(l []api.Node) {
	for i := range l {
		l[i] = api.Node{Kind: 99, Not: true, Min: -7, Max: 77}
	}
}

// spoil writes into all lists of n.
func spoil(n api.Node) {
	all := listsOf(n)
	for _, l := range all.sets {
		spoilSet(l)
	}
	for _, l := range all.kids {
		spoilKids(l)
	}
}

// someTexts are patterns of all kinds.
func someTexts() []string {
	out := []string{"a", ".", "^", "abc", "a|b|c", "(ab)c|d*", "[abc]", "[^a-cx-z-]", "((a{2})*)+", "(^|a)(b|$)", "[ab][ab]|[ab]", "aaaaaaaaaa", "(a|(b|(c|(d|e))))", "a(b(c(de)f)g)h", "[a-bc-de-fg-hi-j]"}
	from := rand.New(rand.NewSource(14))
	for len(out) < 200 {
		if s := regex.Put(drawn(from, 0)); s != "" && len(s) <= 60 {
			out = append(out, s)
		}
	}
	return out
}

// P14.1, P0.3: what is handed in stays, spare room too.
func TestHandedIn(t *testing.T) {
	all := []api.Node{{}, {Kind: api.NEmpty, Set: []api.Range{{Lo: 'b', Hi: 'a'}}, Kids: nodes(a, 2)}, cat(nodes(a, 2000)...), rep(nest(a, 45, inCat), 3, 2)}
	for _, s := range someTexts() {
		n, _ := modelRead(s)
		all = append(all, n, cat(n, api.Node{}), cat(n))
	}
	for i, n := range all {
		x, y := roomyNode(n), roomyNode(all[(i+1)%len(all)])
		wholeX, wholeY := wholeNode(x), wholeNode(y)
		regex.May(x)
		regex.Put(x)
		regex.Eq(x, y)
		regex.Eq(y, x)
		regex.Eq(x, x)
		regex.Eq(x, n)
		if !same(wholeNode(x), wholeX) || !same(wholeNode(y), wholeY) {
			t.Fatalf("P0.3: %s is changed", told(n))
		}
	}
}

// P14.1, P0.3: what Parse tells is the caller's own: who writes into one list of it, its spare room too, changes no other list and no other answer.
func TestToldIsOwn(t *testing.T) {
	for _, s := range someTexts() {
		want, _ := modelRead(s)
		other, _ := regex.Parse(s)
		for at := range listsOf(want).sets {
			n, _ := regex.Parse(s)
			all := listsOf(n)
			sets, kids := all.image()
			spoilSet(all.sets[at])
			spoilSet(sets[at])
			checkImage(t, s, all, sets, kids)
			spoilKids(all.kids[at])
			spoilKids(kids[at])
			checkImage(t, s, all, sets, kids)
		}
		n, _ := regex.Parse(s)
		spoil(n)
		again, err := regex.Parse(s)
		if !same(other, want) || !same(again, want) || err != api.OK {
			t.Fatalf("P0.3: %q: another answer is changed", s)
		}
		if text := regex.Put(again); regex.Put(other) != text || !regex.Eq(again, other) {
			t.Fatalf("P0.3: %q: Put or Eq are changed", s)
		}
	}
}

// checkImage holds that the lists are as their image.
func checkImage(t *testing.T, s string, all lists, sets [][]api.Range, kids [][]api.Node) {
	t.Helper()
	gotSets, gotKids := all.image()
	if !slices.EqualFunc(gotSets, sets, slices.Equal) {
		t.Fatalf("P0.3: %q: two lists share memory", s)
	}
	if !slices.EqualFunc(gotKids, kids, func(x, y []api.Node) bool { return slices.EqualFunc(x, y, same) }) {
		t.Fatalf("P0.3: %q: two lists share memory", s)
	}
}

// P0.3: what is written into a node after it was asked about changes no answer.
func TestNothingKept(t *testing.T) {
	for _, s := range someTexts() {
		n, _ := modelRead(s)
		copied := ownNode(n)
		text := regex.Put(n)
		told := string([]byte(text))
		spoil(n)
		if text != told || regex.Put(copied) != told || !regex.May(copied) {
			t.Fatalf("P0.3: %q: an answer is changed", s)
		}
		if len(listsOf(copied).kids) > 1 && regex.Eq(n, copied) {
			t.Fatalf("P0.3: %q: Eq does not see what was written", s)
		}
	}
}
