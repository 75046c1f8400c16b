package regex_test

import (
	"runtime/debug"
	"slices"
	"strings"
	"testing"

	"rotulus/api"
	"rotulus/regex"
)

// nodes are n times the same node.
func nodes(kid api.Node, n int) []api.Node { return slices.Repeat([]api.Node{kid}, n) }

// nest is n within so many nodes that f makes.
func nest(n api.Node, many int, f func(api.Node) api.Node) api.Node {
	for range many {
		n = f(n)
	}
	return n
}

// Nodes that hold another one.
func inRep(n api.Node) api.Node { return rep(n, 0, -1) }
func inCat(n api.Node) api.Node { return cat(a, n) }
func inAlt(n api.Node) api.Node { return alt(n, b) }

// places are nodes in which n stands at all kinds of places.
func places(n api.Node) []api.Node {
	return []api.Node{
		n, rep(n, 2, 3), cat(n, a), cat(a, n), cat(a, n, b), alt(n, a), alt(a, n), alt(a, n, b),
		rep(cat(a, alt(rep(n, 0, 1), b)), 1, -1), cat(cat(n, a), cat(a, b)), alt(alt(a, b), alt(b, n)), nest(n, 30, inRep),
	}
}

// with is n after f has turned it.
func with(n api.Node, f func(*api.Node)) api.Node {
	f(&n)
	return n
}

// P14.1: what may be, and the shortest text of it.
func TestPut(t *testing.T) {
	for _, x := range []struct {
		n    api.Node
		want string
	}{
		{a, "a"}, {anySign, "."}, {begin, "^"}, {end, "$"}, {one('中'), "中"}, {one(0), "\x00"}, {one(0x10FFFF), "\U0010ffff"}, {not(a), "[^a]"}, {one('-'), "-"}, {one(','), ","}, {one('\n'), "\n"},
		{one('|'), `\|`}, {one('*'), `\*`}, {one('+'), `\+`}, {one('?'), `\?`}, {one('{'), `\{`}, {one('}'), `\}`}, {one('('), `\(`}, {one(')'), `\)`}, {one('['), `\[`}, {one(']'), `\]`}, {one('.'), `\.`}, {one('^'), `\^`}, {one('$'), `\$`}, {one('\\'), `\\`},
		{not(one('.')), "[^.]"}, {not(one('^')), "[^^]"}, {not(one(']')), `[^\]]`}, {not(one('-')), "[^-]"},

		{cat(a, b), "ab"}, {cat(a, cat(b, c)), "a(bc)"}, {cat(cat(a, b), c), "(ab)c"}, {cat(begin, end), "^$"}, {cat(a, alt(b, c)), "a(b|c)"}, {cat(one('a'), one('*')), `a\*`},
		{alt(a, b), "a|b"}, {alt(alt(a, b), c), "(a|b)|c"}, {alt(a, cat(b, c)), "a|bc"}, {alt(cat(a, b), rep(c, 0, 1)), "ab|c?"}, {alt(begin, end), "^|$"}, {alt(cat(a, cat(b, c)), c), "a(bc)|c"},
		{rep(a, 0, -1), "a*"}, {rep(a, 1, -1), "a+"}, {rep(a, 0, 1), "a?"}, {rep(a, 0, 0), "a{0}"}, {rep(a, 1, 1), "a{1}"}, {rep(a, 9, 9), "a{9}"}, {rep(a, 2, -1), "a{2,}"}, {rep(a, 9, -1), "a{9,}"}, {rep(a, 0, 2), "a{0,2}"}, {rep(a, 1, 2), "a{1,2}"}, {rep(a, 0, 9), "a{0,9}"}, {rep(a, 8, 9), "a{8,9}"},
		{rep(begin, 0, -1), "(^)*"}, {rep(end, 2, 2), "($){2}"}, {rep(rep(a, 0, -1), 0, -1), "(a*)*"}, {rep(rep(begin, 0, 1), 1, 1), "((^)?){1}"}, {rep(cat(a, b), 1, -1), "(ab)+"}, {rep(alt(a, b), 0, 1), "(a|b)?"}, {rep(anySign, 0, -1), ".*"}, {rep(one('*'), 0, -1), `\**`}, {rep(not(a), 3, 3), "[^a]{3}"}, {cat(rep(a, 0, -1), rep(rep(b, 0, -1), 0, -1)), "a*(b*)*"},

		{signs("ab"), "[ab]"}, {set('a', 'c'), "[a-c]"}, {set('a', 'b'), "[a-b]"}, {not(set('a', 'c', 'x', 'x')), "[^a-cx]"}, {signs("aa"), "[aa]"}, {set(0, 0x10FFFF), "[\x00-\U0010ffff]"}, {set(0xD7FF, 0xE000), "[\ud7ff-\ue000]"}, {set(0xFFFC, 0xFFFE), "[\ufffc-\ufffe]"},
		{signs("^a"), `[\^a]`}, {signs("a^"), "[a^]"}, {signs("^^"), `[\^^]`}, {not(signs("^a")), "[^^a]"}, {set('^', 'a'), `[\^-a]`}, {not(set('^', 'a')), "[^^-a]"}, {set('A', '^'), "[A-^]"}, {set('a', 'c', '^', 'c'), "[a-c^-c]"},
		{signs("]a"), `[\]a]`}, {signs("a]"), `[a\]]`}, {set(']', 'a'), `[\]-a]`}, {set('A', ']'), `[A-\]]`}, {signs(`\a`), `[\\a]`}, {set('A', '\\'), `[A-\\]`}, {set('\\', ']'), `[\\-\]]`}, {signs("[a"), "[[a]"}, {signs(".*"), "[.*]"},
		{signs("-a"), "[-a]"}, {signs("a-"), "[a-]"}, {signs("a-b"), `[a\-b]`}, {signs("--"), "[--]"}, {signs("---"), `[-\--]`}, {signs("----"), `[-\-\--]`}, {set('-', 'a'), "[--a]"}, {set('a', 'a', '-', 'a'), `[a\--a]`}, {set('a', 'c', '-', '-'), "[a-c-]"}, {set('a', 'c', '-', '-', 'e', 'e'), "[a-c-e]"}, {set('a', 'c', '-', 'e'), "[a-c--e]"}, {set('+', '-'), "[+--]"}, {set('+', '-', '-', '-'), "[+---]"}, {set('+', '-', '-', '-', 'a', 'a'), "[+---a]"}, {set('+', '-', '-', 'a'), "[+----a]"}, {not(signs("-a")), "[^-a]"}, {not(set('-', 'a')), "[^--a]"}, {not(signs("--")), "[^--]"}, {set('a', 'c', '-', '-', '-', '-', 'b', 'b'), `[a-c-\-b]`}, {set('a', 'a', '-', '-', '-', 'a'), `[a\-\--a]`},
	} {
		if got := put(t, x.n); got != x.want {
			t.Errorf("P14.1: Put(%s) = %q, not %q", told(x.n), got, x.want)
		}
		for _, n := range places(x.n) {
			put(t, n)
		}
	}
}

// P14.1: patterns that are within each other, two and three deep.
func TestWithinEachOther(t *testing.T) {
	flat := []api.Node{a, anySign, begin, end, one('*'), not(signs("-^"))}
	around := func(l []api.Node) []api.Node {
		var out []api.Node
		for _, x := range l {
			out = append(out, rep(x, 0, -1), rep(x, 2, 3), cat(x, b), cat(b, x), cat(x, x), alt(x, b), alt(b, x), alt(x, x))
		}
		return out
	}
	two := around(flat)
	three := around(two)
	for _, n := range slices.Concat(flat, two, three, around(three)) {
		put(t, n)
	}
}

// P14.1: one fault each, at all kinds of places.
func TestFaults(t *testing.T) {
	full := set('a', 'c')
	wrong := []api.Node{
		{}, {Kind: api.NEmpty}, {Kind: 8}, {Kind: -1}, {Kind: 1 << 62}, {Kind: -1 << 63},
		{Kind: api.NEmpty, Set: full.Set}, {Kind: api.NEmpty, Kids: nodes(a, 2)}, {Set: full.Set}, {Not: true}, {Kids: nodes(a, 2)},

		{Kind: api.NSet}, {Kind: api.NSet, Set: []api.Range{}}, set('b', 'a'), set('a', 'c', 'b', 'a'), set('b', 'a', 'a', 'c'), not(set('b', 'a')), set(0x10FFFF, 0),
		with(full, func(n *api.Node) { n.Kids = nodes(a, 1) }), with(full, func(n *api.Node) { n.Kids = nodes(a, 2) }), with(full, func(n *api.Node) { n.Min = 1 }), with(full, func(n *api.Node) { n.Max = 1 }), with(full, func(n *api.Node) { n.Max = -1 }), with(anySign, func(n *api.Node) { n.Min = -1 }), with(anySign, func(n *api.Node) { n.Kids = nodes(a, 1) }),

		cat(), cat(a), with(cat(a, b), func(n *api.Node) { n.Set = full.Set }), with(cat(a, b), func(n *api.Node) { n.Not = true }), with(cat(a, b), func(n *api.Node) { n.Min = 1 }), with(cat(a, b), func(n *api.Node) { n.Max = -1 }),
		alt(), alt(a), with(alt(a, b), func(n *api.Node) { n.Set = full.Set }), with(alt(a, b), func(n *api.Node) { n.Not = true }), with(alt(a, b), func(n *api.Node) { n.Min = 1 }), with(alt(a, b), func(n *api.Node) { n.Max = -1 }),

		{Kind: api.NRep}, {Kind: api.NRep, Max: -1}, {Kind: api.NRep, Kids: nodes(a, 2), Max: -1}, {Kind: api.NRep, Kids: nodes(a, 3)},
		with(rep(a, 0, -1), func(n *api.Node) { n.Set = full.Set }), with(rep(a, 0, -1), func(n *api.Node) { n.Not = true }),
		rep(a, -1, -1), rep(a, -1, 0), rep(a, -1, 5), rep(a, 10, -1), rep(a, 10, 10), rep(a, 0, 10), rep(a, 9, 10), rep(a, 1, 0), rep(a, 9, 8), rep(a, 9, 0), rep(a, 0, -2), rep(a, 1, -2), rep(a, 0, 1<<62), rep(a, 1<<62, 1<<62), rep(a, 1<<62, -1), rep(a, -1<<63, -1<<63), rep(a, -1<<63, -1), rep(a, 0, -1<<63), rep(a, -2, -1), rep(a, 256, 256), rep(a, 0, 257),
	}
	for _, anchor := range []api.Node{begin, end} {
		wrong = append(wrong, with(anchor, func(n *api.Node) { n.Set = full.Set }), with(anchor, func(n *api.Node) { n.Not = true }), with(anchor, func(n *api.Node) { n.Kids = nodes(a, 1) }), with(anchor, func(n *api.Node) { n.Kids = nodes(a, 2) }), with(anchor, func(n *api.Node) { n.Min = 1 }), with(anchor, func(n *api.Node) { n.Max = -1 }))
	}
	for _, r := range []rune{-1, -1 << 31, 1<<31 - 1, 0x110000, 0xD800, 0xDBFF, 0xDC00, 0xDFFF, 0xFFFD} {
		wrong = append(wrong, one(r), set('a', r), set(r, 0x10FFFF), not(one(r)), set('a', 'c', r, r), set(r, r, 'a', 'c'), set(-1, r), set(r, 'a'))
	}
	for _, n := range wrong {
		if modelMay(n) {
			t.Fatalf("the model: %s may be", told(n))
		}
		for _, x := range places(n) {
			mayNot(t, x)
		}
	}
	for _, n := range places(full) {
		put(t, n)
	}
}

// P14.1: every two bounds of a repeat, and some beyond them.
func TestBounds(t *testing.T) {
	for least := -3; least < 13; least++ {
		for most := -3; most < 13; most++ {
			n := rep(a, least, most)
			if 0 <= least && least <= 9 && (most == -1 || least <= most && most <= 9) {
				put(t, n)
			} else {
				mayNot(t, n)
			}
		}
	}
}

// P14.1: every sign in a set.
func TestEverySignInNode(t *testing.T) {
	for r := rune(-300); r < 0x110100; r++ {
		want := 0 <= r && r <= 0x10FFFF && (r < 0xD800 || r > 0xDFFF) && r != 0xFFFD
		if regex.May(one(r)) != want {
			t.Fatalf("P14.1: May of the sign %X: %v", r, !want)
		}
		if s := regex.Put(one(r)); want && strings.TrimPrefix(s, `\`) != string(r) || !want && s != "" {
			t.Fatalf("P14.1: Put of the sign %X: %q", r, s)
		}
	}
}

// P14.1: at most 40 deep.
func TestDeep(t *testing.T) {
	for _, f := range []func(api.Node) api.Node{inRep, inCat, inAlt} {
		for _, leaf := range []api.Node{a, anySign, begin, signs("a-b")} {
			for many := range 40 {
				put(t, nest(leaf, many, f))
			}
			for _, many := range []int{40, 41, 42, 80, 100} {
				mayNot(t, nest(leaf, many, f))
			}
		}
	}
	mixed := nest(a, 13, func(n api.Node) api.Node { return inRep(inCat(inAlt(n))) })
	put(t, mixed)
	mayNot(t, inRep(mixed))
	// The deepest Kid counts, wherever it is.
	shallow, deep := nest(a, 38, inRep), nest(a, 39, inRep)
	for _, f := range []func(...api.Node) api.Node{cat, alt} {
		put(t, f(shallow, a))
		put(t, f(a, b, shallow, c, shallow))
		mayNot(t, f(deep, a))
		mayNot(t, f(a, b, shallow, deep, c))
		mayNot(t, f(a, deep))
	}
	put(t, deep)
}

// P14.1: at most 2,000 nodes.
func TestManyNodes(t *testing.T) {
	for _, f := range []func(...api.Node) api.Node{cat, alt} {
		put(t, f(nodes(a, 1998)...))
		put(t, f(nodes(a, 1999)...))
		mayNot(t, f(nodes(a, 2000)...))
		mayNot(t, f(nodes(a, 2001)...))
		mayNot(t, f(nodes(a, 100000)...))
		put(t, rep(f(nodes(a, 1998)...), 0, -1))
		mayNot(t, rep(f(nodes(a, 1999)...), 0, -1))
		put(t, f(nodes(rep(a, 0, 1), 999)...))
		put(t, f(append(nodes(rep(a, 0, 1), 999), a)...))
		mayNot(t, f(nodes(rep(a, 0, 1), 1000)...))
		ten := nodes(cat(nodes(a, 198)...), 10) // 199 each
		put(t, f(append(ten, nodes(b, 9)...)...))
		mayNot(t, f(append(ten, nodes(b, 10)...)...))
	}
	// A set is one node, however many Ranges it has.
	put(t, api.Node{Kind: api.NSet, Set: slices.Repeat([]api.Range{{Lo: 'a', Hi: 'c'}}, 5000)})
	put(t, signs(strings.Repeat("-", 5000)))
}

// P0.1, P14.1: lists that hold one another, so that there are nodes without number or end.
func TestNodesWithoutEnd(t *testing.T) {
	doubled := a
	for range 39 {
		doubled = cat(doubled, doubled)
	}
	mayNot(t, doubled)
	for _, n := range []api.Node{round(1), round(2), round(7)} {
		mayNot(t, n)
		mayNot(t, cat(a, n))
	}
	wide := cat(nodes(a, 3)...)
	for i := range wide.Kids {
		wide.Kids[i] = wide
	}
	mayNot(t, wide)
}

// round is a repeat whose Kid is one, and so on, until so many lie within one another and the last holds the first.
func round(many int) api.Node {
	lists := make([][]api.Node, many)
	for i := range lists {
		lists[i] = nodes(rep(a, 0, -1), 1)
	}
	for i := range lists {
		lists[i][0].Kids = lists[(i+1)%many]
	}
	return lists[0][0]
}

// eq holds Eq of x and y, both ways, against what is wanted.
func eq(t *testing.T, x, y api.Node, want bool) {
	t.Helper()
	if regex.Eq(x, y) != want || regex.Eq(y, x) != want {
		t.Fatalf("P14.1: Eq(%s, %s) is not %v", told(x), told(y), want)
	}
}

// P14.1: Eq of like nodes and of unlike ones, whether they may be or not.
func TestEq(t *testing.T) {
	all := []api.Node{
		{}, {Kind: api.NEmpty}, {Kind: 8}, {Kind: -1}, {Not: true}, {Min: 1}, {Max: 1}, {Max: -1}, {Kids: nodes(api.Node{}, 1)}, {Kids: nodes(api.Node{}, 2)}, {Set: []api.Range{{}}}, {Set: []api.Range{{}, {}}},
		a, b, anySign, {Kind: api.NSet}, begin, end, not(a), set('a', 'b'), signs("ab"), signs("ba"), signs("aab"), signs("abb"), not(signs("ab")), set('a', 'c'), set('a', 'b', 'b', 'c'), one(-1), one(0xFFFD),
		cat(), cat(a), cat(a, b), cat(b, a), cat(a, a), cat(a, b, c), cat(a, a, b), cat(cat(a, b), c), cat(a, cat(b, c)), cat(cat(a, b, c)), cat(a, begin), cat(begin, a), cat(a, not(b)),
		alt(), alt(a), alt(a, b), alt(b, a), alt(a, a), alt(a, b, c), alt(alt(a, b), c), alt(a, alt(b, c)), alt(cat(a, b), c), cat(alt(a, b), c), alt(a, begin),
		rep(a, 0, -1), rep(b, 0, -1), rep(a, 1, -1), rep(a, 0, 1), rep(a, 1, 1), rep(a, 0, 0), rep(not(a), 0, -1), rep(rep(a, 0, -1), 0, -1), rep(rep(a, 0, -1), 0, 1), rep(rep(a, 0, 1), 0, -1), rep(cat(a, b), 0, -1), rep(alt(a, b), 0, -1), rep(begin, 0, -1), rep(end, 0, -1), {Kind: api.NRep, Max: -1}, {Kind: api.NRep, Kids: nodes(a, 2), Max: -1},
		nest(a, 39, inRep), nest(a, 40, inRep), nest(b, 40, inRep), nest(a, 39, inCat), nest(a, 39, inAlt), cat(nodes(a, 2000)...), cat(nodes(a, 2001)...),
	}
	for i, x := range all {
		for j, y := range all {
			eq(t, x, y, i == j)
			eq(t, ownNode(x), ownNode(y), i == j)
			eq(t, cat(c, x), cat(c, y), i == j)
			eq(t, rep(alt(x, c), 0, -1), rep(alt(y, c), 0, -1), i == j)
		}
	}
}

// P14.1: each field that differs makes nodes unlike, in whatever Kid.
func TestEqFields(t *testing.T) {
	whole := cat(alt(a, set('a', 'c', 'x', 'x'), rep(cat(b, not(signs("ab"))), 2, 3)), begin, rep(anySign, 0, -1))
	var paths [][]int
	var walk func(n api.Node, path []int)
	walk = func(n api.Node, path []int) {
		paths = append(paths, slices.Clone(path))
		for i, kid := range n.Kids {
			walk(kid, append(slices.Clone(path), i))
		}
	}
	walk(whole, nil)
	for _, path := range paths {
		for _, f := range []func(*api.Node){
			func(n *api.Node) { n.Kind++ }, func(n *api.Node) { n.Not = !n.Not }, func(n *api.Node) { n.Min++ }, func(n *api.Node) { n.Max-- },
			func(n *api.Node) { n.Set = append(n.Set, api.Range{Lo: 'z', Hi: 'z'}) }, func(n *api.Node) { n.Kids = append(n.Kids, a) },
			func(n *api.Node) {
				if len(n.Set) > 0 {
					n.Set[len(n.Set)-1].Hi++
					return
				}
				n.Min = -7
			},
			func(n *api.Node) {
				if len(n.Set) > 0 {
					n.Set[0].Lo--
					return
				}
				n.Max = 7
			},
			func(n *api.Node) {
				if len(n.Kids) > 0 {
					n.Kids = n.Kids[:len(n.Kids)-1]
					return
				}
				n.Kind = 0
			},
		} {
			turned := ownNode(whole)
			eq(t, whole, turned, true)
			n := &turned
			for _, i := range path {
				n = &n.Kids[i]
			}
			f(n)
			eq(t, whole, turned, false)
		}
	}
}

// P14.1, P0.4: a nil list is like an empty one.
func TestNilLikeEmpty(t *testing.T) {
	hollow := func(n api.Node) api.Node {
		if n.Set == nil {
			n.Set = make([]api.Range, 0, 3)
		}
		if n.Kids == nil {
			n.Kids = make([]api.Node, 0, 3)
		}
		return n
	}
	for _, n := range []api.Node{{}, {Kind: api.NEmpty}, a, anySign, begin, end, cat(), cat(a, b), alt(a, begin), rep(a, 0, -1), {Kind: api.NRep}, {Kind: api.NSet}} {
		x := hollow(n)
		x.Kids = slices.Clone(x.Kids)
		for i, kid := range x.Kids {
			x.Kids[i] = hollow(kid)
		}
		eq(t, n, x, true)
		eq(t, x, x, true)
		if regex.May(n) != regex.May(x) || regex.Put(n) != regex.Put(x) {
			t.Errorf("P0.4: %s: May or Put of nil lists and of empty ones differ", told(n))
		}
	}
}

// P0.1, P14.1: Eq ends, however deep nodes are and however they hold one another.
func TestEqWithoutEnd(t *testing.T) {
	defer debug.SetMaxStack(debug.SetMaxStack(1 << 20))
	deep, other, short := nest(a, 100000, inRep), nest(a, 100000, inRep), nest(a, 99999, inRep)
	for _, x := range []struct {
		x, y api.Node
		want bool
	}{
		{deep, other, true}, {deep, short, false}, {deep, nest(b, 100000, inRep), false}, {deep, deep, true},
		{round(1), round(1), true}, {round(1), round(2), true}, {round(6), round(35), true}, {round(1), round(9999), true}, {round(9998), round(9999), true},
		{round(1), deep, false}, {round(3), nest(a, 3, inRep), false}, {round(2), rep(round(3), 0, -1), true}, {round(2), rep(round(3), 1, -1), false}, {round(1), a, false}, {round(1), cat(round(1), a), false},
	} {
		if regex.Eq(x.x, x.y) != x.want || regex.Eq(x.y, x.x) != x.want {
			t.Errorf("P14.1: Eq is not %v", x.want)
		}
	}
	doubled, another, unlike := a, a, b
	for range 100 {
		doubled, another, unlike = cat(doubled, doubled), cat(another, another), cat(unlike, unlike)
	}
	if !regex.Eq(doubled, another) || regex.Eq(doubled, unlike) || regex.Eq(doubled, cat(another, a)) {
		t.Error("P14.1: Eq of nodes that are held twice")
	}
}
