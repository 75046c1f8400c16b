package nfa_test

import (
	"fmt"
	"math"
	"math/big"
	"slices"
	"testing"
	"time"

	"rotulus/api"
	"rotulus/nfa"
	"rotulus/regex"
)

// Nodes in short.
var (
	anySign = api.Node{Kind: api.NSet, Not: true}
	begin   = api.Node{Kind: api.NBegin}
	end     = api.Node{Kind: api.NEnd}
	a       = set('a', 'a')
	b       = set('b', 'b')
)

func cat(kids ...api.Node) api.Node { return api.Node{Kind: api.NCat, Kids: kids} }
func alt(kids ...api.Node) api.Node { return api.Node{Kind: api.NAlt, Kids: kids} }

// set is the set of ranges, of which each has two signs.
func set(ends ...rune) api.Node {
	n := api.Node{Kind: api.NSet}
	for i := 0; i < len(ends); i += 2 {
		n.Set = append(n.Set, api.Range{Lo: ends[i], Hi: ends[i+1]})
	}
	return n
}

// not is the set of the others.
func not(n api.Node) api.Node {
	n.Not = true
	return n
}

// rep is n from least to most times.
func rep(n api.Node, least, most int) api.Node {
	return api.Node{Kind: api.NRep, Kids: []api.Node{n}, Min: least, Max: most}
}

// copies are so many of n.
func copies(n api.Node, many int) []api.Node { return slices.Repeat([]api.Node{n}, many) }

// nest is n within so many nodes that f makes.
func nest(n api.Node, many int, f func(api.Node) api.Node) api.Node {
	for range many {
		n = f(n)
	}
	return n
}

// times9 is n nine times.
func times9(n api.Node) api.Node { return rep(n, 9, 9) }

// told tells a pattern in short.
func told(n api.Node) string {
	s := regex.Put(n)
	if s == "" {
		s = fmt.Sprintf("%+v", n)
	}
	return s[:min(len(s), 400)]
}

// read is the pattern of s.
func read(t *testing.T, s string) api.Node {
	t.Helper()
	n, err := regex.Parse(s)
	if err != api.OK {
		t.Fatalf("Parse(%q): %v", s, err)
	}
	return n
}

// machine is Compile of n, which is a pattern that is not too heavy; its Size is held against the model.
func machine(t *testing.T, n api.Node) *nfa.Prog {
	t.Helper()
	p, err := nfa.Compile(n)
	if err != api.OK || p == nil {
		t.Fatalf("P15.1: Compile(%s) = %v, %v", told(n), p, err)
	}
	if want := modelWeight(n).String(); fmt.Sprint(p.Size()) != want {
		t.Fatalf("P15.1: Size of %s is %d, not %s", told(n), p.Size(), want)
	}
	return p
}

// refuse holds that Compile of n answers an error.
func refuse(t *testing.T, n api.Node, want api.Errno) {
	t.Helper()
	if p, err := nfa.Compile(n); p != nil || err != want {
		t.Errorf("P15.1: Compile(%s) = %v, %v, not nil, %v", told(n), p, err, want)
	}
}

// ends holds Ends against what is wanted.
func ends(t *testing.T, p *nfa.Prog, n api.Node, l []rune, at int, want []int) {
	t.Helper()
	if got := p.Ends(l, at); !slices.Equal(got, want) {
		t.Fatalf("P15.1: Ends of %s over %q from %d are %v, not %v", told(n), short(l), at, got, want)
	}
}

// short is the beginning of l.
func short(l []rune) string { return string(l[:min(len(l), 80)]) }

// check holds Ends against the model at all places of l and next to them.
func check(t *testing.T, p *nfa.Prog, n api.Node, l []rune) {
	t.Helper()
	for at := -1; at <= len(l)+1; at++ {
		ends(t, p, n, l, at, modelEnds(n, l, at))
	}
}

// soon fails if f takes long.
func soon(t *testing.T, f func()) {
	t.Helper()
	done := make(chan bool)
	go func() {
		f()
		close(done)
	}()
	select {
	case <-done:
	case <-time.After(2 * time.Minute):
		t.Fatal("P15.1: it takes more steps than Size times the length and some")
	}
}

// to are the places from lo to hi.
func to(lo, hi int) []int {
	var out []int
	for i := lo; i <= hi; i++ {
		out = append(out, i)
	}
	return out
}

// P15.1: the weight of each kind of node, and of nodes within nodes.
func TestSize(t *testing.T) {
	for _, x := range []struct {
		s    string
		want int
	}{
		{"a", 1}, {".", 1}, {"[^a-cx]", 1}, {"[abcdefghi]", 1}, {"^", 1}, {"$", 1},
		{"ab", 2}, {"abc", 3}, {"^$", 2}, {"^ab$", 4}, {"a(b(cd))", 4}, {"(ab)(cd)", 4},
		{"a|b", 3}, {"a|b|c", 4}, {"^|$", 3}, {"(a|b)|c", 5}, {"ab|c", 4}, {"(a|b)(c|d)", 6}, {"a|b|c|d|e|f|g|h", 9},
		{"a*", 2}, {"a+", 3}, {"a?", 2}, {"a{0}", 1}, {"a{0,0}", 1}, {"a{1}", 2}, {"a{2}", 3}, {"a{9}", 10}, {"a{0,}", 2}, {"a{1,}", 3}, {"a{2,}", 4}, {"a{9,}", 11}, {"a{0,1}", 2}, {"a{0,9}", 10}, {"a{1,2}", 3}, {"a{8,9}", 10}, {"a{2,5}", 6},
		{"(^)*", 2}, {"($){3}", 4}, {"(abc){0}", 1}, {"(abc){0,0}", 1}, {"(abc){2}", 7}, {"(abc)*", 4}, {"(abc)+", 7}, {"(abc)?", 4}, {"(abc){3,}", 13}, {"(a|b)*", 4}, {"(a|b)+", 7}, {"(a|b){0}", 1}, {"(a|b){2,4}", 13}, {"(a*)*", 3}, {"(a*)+", 5}, {"(a+)*", 4}, {"(a+)+", 7}, {"(a{2}){3}", 10}, {"(a{3}){2}", 9}, {"(a{0}){9}", 10}, {"(a{9}){0}", 1}, {"a{2}b{3}|c{4}", 13},
		{"((((((a{9}){9}){9}){9}){9}){9}){0}", 1}, {"a((((((a{9}){9}){9}){9}){9}){9}){0,0}b", 3}, {"(((((((a{9}){9}){9}){9}){9}){9}){0}){9,}", 11}, {"((((a{9}){9}){9}){9})", 7381},
	} {
		if got := machine(t, read(t, x.s)).Size(); got != x.want {
			t.Errorf("P15.1: Size of %s is %d, not %d", x.s, got, x.want)
		}
	}
}

// weighing is a pattern of that weight, 91 at least, of few nodes.
func weighing(weight int) api.Node {
	rest := (weight - 10) % 81
	n := times9(times9(set('a', 'z')))
	if many := (weight - 10) / 81; many > 1 {
		n = times9(times9(cat(copies(a, many)...)))
	}
	if rest == 0 {
		return n
	}
	return cat(append(copies(b, rest), n)...)
}

// P15.1: the greatest weight, and one more, by all kinds of nodes.
func TestHeaviest(t *testing.T) {
	for _, x := range []struct {
		n    api.Node
		want int
	}{
		{weighing(19000), 19000}, {weighing(19999), 19999}, {weighing(20000), 20000}, {weighing(20001), 20001}, {weighing(20002), 20002}, {weighing(40000), 40000},
		{cat(weighing(10000), weighing(10000)), 20000}, {cat(weighing(10000), weighing(10001)), 20001}, {cat(begin, weighing(19998), end), 20000}, {cat(begin, weighing(19999), end), 20001},
		{alt(weighing(10000), weighing(9999)), 20000}, {alt(weighing(10000), weighing(10000)), 20001}, {alt(a, weighing(19997), end), 20000}, {alt(a, weighing(19998), end), 20001},
		{rep(weighing(19999), 0, 1), 20000}, {rep(weighing(19999), 1, 1), 20000}, {rep(weighing(19999), 0, -1), 20000}, {rep(weighing(20000), 0, 1), 20001}, {rep(weighing(20000), 1, 1), 20001}, {rep(weighing(20000), 0, -1), 20001},
		{cat(rep(weighing(9999), 2, 2), a), 20000}, {cat(rep(weighing(9999), 0, 2), a, b), 20001}, {cat(rep(weighing(9999), 1, -1), a), 20000}, {cat(rep(weighing(9999), 1, -1), a, b), 20001}, {rep(weighing(10000), 2, 2), 20001}, {rep(weighing(10000), 1, -1), 20001},
		{rep(weighing(6666), 3, 3), 19999}, {rep(weighing(6667), 1, 3), 20002}, {rep(weighing(2222), 9, 9), 19999}, {rep(weighing(2222), 0, 9), 19999}, {rep(weighing(2222), 8, -1), 19999}, {rep(weighing(2223), 8, 9), 20008}, {rep(weighing(1999), 9, -1), 19991}, {rep(weighing(2000), 9, -1), 20001},
		{rep(weighing(20000), 0, 0), 1}, {rep(weighing(20001), 0, 0), 1}, {rep(nest(a, 38, times9), 0, 0), 1}, {cat(a, rep(nest(a, 37, times9), 0, 0), b), 3}, {nest(rep(nest(a, 30, times9), 0, 0), 4, times9), 7381}, {cat(weighing(19999), rep(nest(a, 30, times9), 0, 0)), 20000}, {cat(weighing(20000), rep(a, 0, 0)), 20001},
	} {
		if weight := modelWeight(x.n).String(); weight != fmt.Sprint(x.want) {
			t.Fatalf("the model: %s weighs %s, not %d", told(x.n), weight, x.want)
		}
		if x.want > 20000 {
			refuse(t, x.n, api.ErrFull)
			continue
		}
		machine(t, x.n)
	}
}

// P15.1: patterns far too heavy: products that no number holds, or that come round to few.
func TestFarTooHeavy(t *testing.T) {
	for _, most := range []int{2, 3, 4, 5, 6, 7, 8, 9} {
		for many := range 40 {
			for _, f := range []func(api.Node) api.Node{
				func(n api.Node) api.Node { return rep(n, most, most) },
				func(n api.Node) api.Node { return rep(n, 0, most) },
				func(n api.Node) api.Node { return rep(n, most-1, -1) },
			} {
				n := nest(a, many, f)
				if modelWeight(n).Cmp(big.NewInt(20000)) <= 0 {
					machine(t, n)
					continue
				}
				refuse(t, n, api.ErrFull)
				if many < 37 {
					refuse(t, cat(b, n), api.ErrFull)
					refuse(t, alt(n, n, n), api.ErrFull)
					refuse(t, rep(alt(n, b), 1, 1), api.ErrFull)
					machine(t, cat(rep(n, 0, 0), b))
				}
			}
		}
	}
	refuse(t, cat(copies(nest(a, 30, times9), 60)...), api.ErrFull)
	machine(t, rep(cat(copies(a, 1990)...), 9, -1))
}

// P15.1: what is no pattern, wherever it stands, heavy or not.
func TestNoPattern(t *testing.T) {
	round := []api.Node{a, {}}
	round[1] = api.Node{Kind: api.NCat, Kids: round}
	for i, n := range []api.Node{
		{}, {Kind: api.NEmpty}, {Kind: -1}, {Kind: 8}, {Kind: 99}, {Kind: math.MinInt}, {Kind: math.MaxInt},
		set(), set('b', 'a'), not(set('b', 'a')), set('a', 'a', 'b', 'a'), set(-1, 'a'), set('a', 0x110000), set(0xD800, 0xE000), set('a', 0xDFFF), set(0xFFFD, 0xFFFF), set(0xFFFD, 0xFFFD), set(math.MinInt32, math.MaxInt32),
		{Kind: api.NSet, Not: true, Min: 1}, {Kind: api.NSet, Not: true, Max: -1}, {Kind: api.NSet, Not: true, Kids: copies(a, 1)},
		cat(), cat(a), alt(), alt(a), {Kind: api.NCat, Kids: copies(a, 2), Not: true}, {Kind: api.NAlt, Kids: copies(a, 2), Set: a.Set}, {Kind: api.NCat, Kids: copies(a, 2), Max: 1}, {Kind: api.NAlt, Kids: copies(a, 2), Min: 1},
		{Kind: api.NRep}, {Kind: api.NRep, Max: 1}, {Kind: api.NRep, Max: 1, Kids: copies(a, 2)}, rep(a, -1, 1), rep(a, -1, -1), rep(a, 0, -2), rep(a, 10, -1), rep(a, 2, 1), rep(a, 0, 10), rep(a, 10, 10), rep(a, math.MinInt, math.MaxInt), rep(a, math.MaxInt, -1), rep(a, 0, math.MaxInt), rep(api.Node{}, 0, 0), {Kind: api.NRep, Kids: copies(a, 1), Set: a.Set}, {Kind: api.NRep, Kids: copies(a, 1), Not: true},
		{Kind: api.NBegin, Kids: copies(a, 1)}, {Kind: api.NEnd, Set: a.Set}, {Kind: api.NBegin, Not: true}, {Kind: api.NEnd, Max: 1}, {Kind: api.NEnd, Min: 1},
		cat(copies(a, 2000)...), nest(a, 40, times9), nest(a, 40, func(n api.Node) api.Node { return cat(n, a) }), rep(nest(a, 39, times9), 0, 0), round[1], {Kind: api.NRep, Max: 1, Kids: round[1:]}, rep(round[1], 0, 0),
	} {
		if regex.May(n) {
			t.Fatalf("%d may be a pattern", i)
		}
		heavy := cat(copies(nest(a, 6, times9), 2)...)
		for _, x := range []api.Node{n, cat(a, n), cat(n, a), alt(a, n, b), rep(n, 1, 1), rep(n, 0, 0), rep(cat(a, alt(n, b)), 9, -1), cat(heavy, n), cat(n, heavy), alt(heavy, n), times9(times9(times9(times9(times9(n)))))} {
			refuse(t, x, api.ErrRegex)
		}
	}
	machine(t, cat(copies(a, 1999)...))
	machine(t, nest(a, 39, func(n api.Node) api.Node { return cat(n, a) }))
	machine(t, rep(nest(a, 38, times9), 0, 0))
}

// P15.1: no machine.
func TestNoMachine(t *testing.T) {
	var zero nfa.Prog
	for _, p := range []*nfa.Prog{nil, &zero} {
		if p.Size() != 0 {
			t.Errorf("P15.1: Size of none is %d", p.Size())
		}
		for _, l := range [][]rune{nil, {}, {'a'}, {'a', 'b'}} {
			for _, at := range []int{math.MinInt, -1, 0, 1, 2, 3, math.MaxInt} {
				if got := p.Ends(l, at); got != nil {
					t.Errorf("P15.1: Ends of none are %v", got)
				}
			}
		}
	}
}
