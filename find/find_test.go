package find_test

import (
	"math"
	"slices"
	"testing"

	"rotulus/api"
	"rotulus/find"
	"rotulus/nfa"
	"rotulus/regex"
)

// Nodes in short.
var (
	a       = api.Node{Kind: api.NSet, Set: []api.Range{{Lo: 'a', Hi: 'a'}}}
	b       = api.Node{Kind: api.NSet, Set: []api.Range{{Lo: 'b', Hi: 'b'}}}
	notA    = api.Node{Kind: api.NSet, Set: a.Set, Not: true}
	anySign = api.Node{Kind: api.NSet, Not: true}
	begin   = api.Node{Kind: api.NBegin}
	end     = api.Node{Kind: api.NEnd}
)

func cat(kids ...api.Node) api.Node { return api.Node{Kind: api.NCat, Kids: kids} }
func alt(kids ...api.Node) api.Node { return api.Node{Kind: api.NAlt, Kids: kids} }

// rep is n from least to most times.
func rep(n api.Node, least, most int) api.Node {
	return api.Node{Kind: api.NRep, Kids: []api.Node{n}, Min: least, Max: most}
}

// machine is that of n, which is a pattern that is not too heavy.
func machine(t *testing.T, n api.Node) *nfa.Prog {
	t.Helper()
	p, err := nfa.Compile(n)
	if err != api.OK {
		t.Fatalf("Compile(%s): %v", regex.Put(n), err)
	}
	return p
}

// read is the pattern of s, and its machine.
func read(t *testing.T, s string) (api.Node, *nfa.Prog) {
	t.Helper()
	n, err := regex.Parse(s)
	if err != api.OK {
		t.Fatalf("Parse(%q): %v", s, err)
	}
	return n, machine(t, n)
}

// short is the beginning of l.
func short(l []rune) string { return string(l[:min(len(l), 80)]) }

// holdAt holds At against what is wanted.
func holdAt(t *testing.T, p *nfa.Prog, what string, l []rune, at, want int) {
	t.Helper()
	if got := find.At(p, l, at); got != want {
		t.Errorf("P16.1: At of %s in %q at %d is %d, not %d", what, short(l), at, got, want)
	}
}

// holdNext holds Next against what is wanted.
func holdNext(t *testing.T, p *nfa.Prog, what string, l []rune, from int, want hit) {
	t.Helper()
	if at, long, ok := find.Next(p, l, from); (hit{at, long, ok}) != want {
		t.Errorf("P16.1: Next of %s in %q from %d is %d, %d, %v, not %v", what, short(l), from, at, long, ok, want)
	}
}

// holdLast holds Last against what is wanted.
func holdLast(t *testing.T, p *nfa.Prog, what string, l []rune, before int, want hit) {
	t.Helper()
	if at, long, ok := find.Last(p, l, before); (hit{at, long, ok}) != want {
		t.Errorf("P16.1: Last of %s in %q before %d is %d, %d, %v, not %v", what, short(l), before, at, long, ok, want)
	}
}

// holdCount holds Count against what is wanted.
func holdCount(t *testing.T, p *nfa.Prog, what string, l []rune, want int) {
	t.Helper()
	if got := find.Count(p, l); got != want {
		t.Errorf("P16.1: Count of %s in %q is %d, not %d", what, short(l), got, want)
	}
}

// check holds all of p, the machine of n, in l against the model, at all places and outside of them.
func check(t *testing.T, p *nfa.Prog, n api.Node, l []rune) {
	t.Helper()
	x, what := tableOf(n, l), regex.Put(n)
	for at := -2; at <= len(l)+2; at++ {
		holdAt(t, p, what, l, at, x.atOf(at))
		holdNext(t, p, what, l, at, x.nextOf(at))
		holdLast(t, p, what, l, at, x.lastOf(at))
	}
	holdCount(t, p, what, l, x.countOf())
	if t.Failed() {
		t.FailNow()
	}
}

// far are places that are far outside of any line.
func far() []int {
	return []int{math.MinInt, math.MinInt + 1, math.MinInt + 2, -1 << 32, -1 << 31, -100, 1 << 20, 1 << 31, 1 << 32, math.MaxInt - 1, math.MaxInt}
}

// P16.1: how long the longest is, of each place.
func TestAt(t *testing.T) {
	for _, x := range []struct {
		s, l string
		want []int // of each place of l, its length with them
	}{
		{"a", "aba", []int{1, 0, 1, 0}}, {"ab", "abab", []int{2, 0, 2, 0, 0}}, {"ab", "a", []int{0, 0}},
		{"a|ab", "abb", []int{2, 0, 0, 0}}, {"ab|a", "abb", []int{2, 0, 0, 0}}, {"a|ab|abc", "abab", []int{2, 0, 2, 0, 0}}, {"abc|ab|a", "abcab", []int{3, 0, 0, 2, 0, 0}}, {"a|b|ab|ba", "abba", []int{2, 1, 2, 1, 0}},
		{"(a|ab)(c|bcd)", "abcd", []int{4, 0, 0, 0, 0}}, {"(a|ab)(c|bcd)", "abcc", []int{3, 0, 0, 0, 0}}, {"(ab|a)(bcd|c)", "abcd", []int{4, 0, 0, 0, 0}}, {"(a|ab)(c|bcd)(d*)", "abcddd", []int{6, 0, 0, 0, 0, 0, 0}}, {"(a|ab)(bc|c)?", "abcabbc", []int{3, 0, 0, 4, 0, 0, 0, 0}},
		{"(a|aa)(b|ab|$)", "aaab", []int{4, 3, 2, 0, 0}}, {"(aa|aaa)*", "aaaaaaa", []int{7, 6, 5, 4, 3, 2, 0, 0}}, {"(aaa|aaaaa)", "aaaaaa", []int{5, 5, 3, 3, 0, 0, 0}}, {"(a|b)*b", "abaa", []int{2, 1, 0, 0, 0}}, {"a.*b", "aabab", []int{5, 4, 0, 2, 0, 0}}, {"a.*b|a", "aaba", []int{3, 2, 0, 1, 0}},
		{"a*", "aabaaa", []int{2, 1, 0, 3, 2, 1, 0}}, {"a+", "aab", []int{2, 1, 0, 0}}, {"a?", "aab", []int{1, 1, 0, 0}}, {"a{2}", "aaaa", []int{2, 2, 2, 0, 0}}, {"a{2,}", "aaaa", []int{4, 3, 2, 0, 0}}, {"a{1,3}", "aaaaa", []int{3, 3, 3, 2, 1, 0}}, {"a{0,2}", "aaaa", []int{2, 2, 2, 1, 0}}, {"a{0}", "aa", []int{0, 0, 0}}, {"(ab)*", "ababa", []int{4, 0, 2, 0, 0, 0}},
		{"a*", "bb", []int{0, 0, 0}}, {"a*", "", []int{0}}, {"a*", "baab", []int{0, 2, 1, 0, 0}}, {"a*b*", "ba", []int{1, 1, 0}}, {"^", "aa", []int{0, 0, 0}}, {"$", "aa", []int{0, 0, 0}}, {"(^|$)", "aa", []int{0, 0, 0}}, {"(^|$)", "", []int{0}}, {"^$", "", []int{0}}, {"(^|$)*", "a", []int{0, 0}},
		{"^a", "aaa", []int{1, 0, 0, 0}}, {"a$", "aaa", []int{0, 0, 1, 0}}, {"^a*", "aaba", []int{2, 0, 0, 0, 0}}, {"a*$", "aaba", []int{0, 0, 0, 1, 0}}, {"^a*$", "aaa", []int{3, 0, 0, 0}}, {"^a*$", "aba", []int{0, 0, 0, 0}}, {"(^|b)a", "abaa", []int{1, 2, 0, 0, 0}}, {"a(b|$)", "aaba", []int{0, 2, 0, 1, 0}}, {"a(^|b)", "aab", []int{0, 2, 0, 0}}, {"($|a)a", "aaa", []int{2, 2, 0, 0}}, {"(a$|b)*", "bba", []int{3, 2, 1, 0}}, {"(^ab|b)*", "abbab", []int{3, 2, 1, 0, 1, 0}},
		{".", "", []int{0}}, {".*", "abc", []int{3, 2, 1, 0}}, {"..", "abc", []int{2, 2, 0, 0}}, {"[^b]*", "aaba", []int{2, 1, 0, 1, 0}}, {"[a-c]+", "abdc", []int{2, 1, 0, 1, 0}}, {"中.", "中a中", []int{2, 0, 0, 0}}, {"[一-龥]+", "a中文b", []int{0, 2, 1, 0, 0}}, {"😀*", "😀😀", []int{2, 1, 0}},
	} {
		_, p := read(t, x.s)
		l := []rune(x.l)
		for at := range l {
			holdAt(t, p, x.s, l, at, x.want[at])
		}
		holdAt(t, p, x.s, l, len(l), x.want[len(l)])
		for _, at := range append(far(), -1, -2, len(l)+1, len(l)+2) {
			holdAt(t, p, x.s, l, at, 0)
		}
		n, _ := read(t, x.s)
		check(t, p, n, l)
	}
}

// places are what Next or Last tells from some place on.
type places struct {
	from int
	want hit
}

// yes is a hit.
func yes(at, long int) hit { return hit{at, long, true} }

// none is none.
var none hit

// P16.1: the least place from a place on.
func TestNext(t *testing.T) {
	for _, x := range []struct {
		s, l string
		want []places
	}{
		{"ab+", "xabbxab", []places{{math.MinInt, yes(1, 3)}, {-1, yes(1, 3)}, {0, yes(1, 3)}, {1, yes(1, 3)}, {2, yes(5, 2)}, {3, yes(5, 2)}, {4, yes(5, 2)}, {5, yes(5, 2)}, {6, none}, {7, none}, {8, none}, {math.MaxInt, none}}},
		{"a+", "aaabaa", []places{{-5, yes(0, 3)}, {0, yes(0, 3)}, {1, yes(1, 2)}, {2, yes(2, 1)}, {3, yes(4, 2)}, {4, yes(4, 2)}, {5, yes(5, 1)}, {6, none}}},
		{"a*", "bbaab", []places{{-1, yes(2, 2)}, {0, yes(2, 2)}, {1, yes(2, 2)}, {2, yes(2, 2)}, {3, yes(3, 1)}, {4, none}, {5, none}}},
		{"b|aaa", "cbaaa", []places{{0, yes(1, 1)}, {1, yes(1, 1)}, {2, yes(2, 3)}, {3, none}}},
		{"aaa|b", "caaab", []places{{0, yes(1, 3)}, {2, yes(4, 1)}, {5, none}}},
		{"ab|bcde", "abcde", []places{{0, yes(0, 2)}, {1, yes(1, 4)}, {2, none}}},
		{"^a", "aaa", []places{{-9, yes(0, 1)}, {0, yes(0, 1)}, {1, none}, {2, none}, {3, none}}},
		{"a$", "aaa", []places{{0, yes(2, 1)}, {2, yes(2, 1)}, {3, none}}},
		{"^a*", "baa", []places{{0, none}, {1, none}}}, {"^b|a", "aba", []places{{0, yes(0, 1)}, {1, yes(2, 1)}}}, {"(^|b)a", "aaba", []places{{0, yes(0, 1)}, {1, yes(2, 2)}, {3, none}}},
		{"^|$", "ab", []places{{-1, none}, {0, none}, {2, none}}}, {"a*", "bbb", []places{{0, none}, {3, none}}}, {"a{0}", "aaa", []places{{0, none}}}, {"$", "a", []places{{0, none}, {1, none}}},
		{"x*", "", []places{{-1, none}, {0, none}, {1, none}}}, {".", "", []places{{math.MinInt, none}, {0, none}, {math.MaxInt, none}}},
	} {
		n, p := read(t, x.s)
		l := []rune(x.l)
		for _, y := range x.want {
			holdNext(t, p, x.s, l, y.from, y.want)
		}
		for _, from := range far() {
			want := none
			if from < 0 {
				want = x.want[0].want
			}
			holdNext(t, p, x.s, l, from, want)
		}
		check(t, p, n, l)
	}
}

// P16.1: the greatest place below a place.
func TestLast(t *testing.T) {
	for _, x := range []struct {
		s, l string
		want []places // that of the length first
	}{
		{"ab+", "xabbxab", []places{{7, yes(5, 2)}, {8, yes(5, 2)}, {math.MaxInt, yes(5, 2)}, {6, yes(5, 2)}, {5, yes(1, 3)}, {4, yes(1, 3)}, {3, yes(1, 3)}, {2, yes(1, 3)}, {1, none}, {0, none}, {-1, none}, {math.MinInt, none}}},
		{"a+", "aaabaa", []places{{6, yes(5, 1)}, {5, yes(4, 2)}, {4, yes(2, 1)}, {3, yes(2, 1)}, {2, yes(1, 2)}, {1, yes(0, 3)}, {0, none}}},
		{"aba", "ababa", []places{{5, yes(2, 3)}, {4, yes(2, 3)}, {3, yes(2, 3)}, {2, yes(0, 3)}, {1, yes(0, 3)}, {0, none}}},
		{"abcd|bc", "abcd", []places{{4, yes(1, 2)}, {2, yes(1, 2)}, {1, yes(0, 4)}, {0, none}}},
		{".*", "abc", []places{{3, yes(2, 1)}, {4, yes(2, 1)}, {2, yes(1, 2)}, {1, yes(0, 3)}, {0, none}}},
		{"a*", "baab", []places{{4, yes(2, 1)}, {3, yes(2, 1)}, {2, yes(1, 2)}, {1, none}}},
		{"^a", "aaa", []places{{3, yes(0, 1)}, {9, yes(0, 1)}, {1, yes(0, 1)}, {0, none}}},
		{"a$", "aaa", []places{{3, yes(2, 1)}, {2, none}, {1, none}}},
		{"a*$", "aab", []places{{3, none}}}, {"(^|b)a", "abab", []places{{4, yes(1, 2)}, {1, yes(0, 1)}}},
		{"^|$", "ab", []places{{2, none}, {3, none}}}, {"a*", "bb", []places{{2, none}}}, {"$", "", []places{{0, none}, {1, none}}}, {".", "", []places{{0, none}, {math.MaxInt, none}, {math.MinInt, none}}},
	} {
		n, p := read(t, x.s)
		l := []rune(x.l)
		for _, y := range x.want {
			holdLast(t, p, x.s, l, y.from, y.want)
		}
		for _, before := range far() {
			want := none
			if before > 0 {
				want = x.want[0].want
			}
			holdLast(t, p, x.s, l, before, want)
		}
		check(t, p, n, l)
	}
}

// P16.1: how many.
func TestCount(t *testing.T) {
	for _, x := range []struct {
		s, l string
		want int
	}{
		{"a", "", 0}, {"a", "bbb", 0}, {"a", "a", 1}, {"a", "aaaa", 4}, {"a", "babab", 2}, {"ab", "ababab", 3}, {"ab", "abxab", 2},
		{"aa", "aaaaa", 2}, {"aa", "aaaa", 2}, {"aba", "ababa", 1}, {"aba", "ababaaba", 2}, {"a|aba", "ababa", 2}, {"ab|ba", "abab", 2}, {"ab|ba", "aba", 1}, {"a+", "aabaaa", 2}, {"a{1,2}", "aaaaa", 3}, {"a{2,3}", "aaaa", 1}, {"a{2,3}", "aaaaa", 2}, {"a|ab|abc", "abcab", 2}, {"ab|bcde|e", "abcde", 2},
		{"a*", "bb", 0}, {"a*", "baab", 1}, {"a*", "abaab", 2}, {"a?", "aab", 2}, {".*", "abc", 1}, {".*", "", 0}, {".", "abc", 3}, {"a*|b", "abba", 4}, {"(ab)*", "ababbab", 2}, {"a{0}", "aaa", 0}, {"^", "aaa", 0}, {"$", "aaa", 0}, {"(^|$)", "aaa", 0}, {"^$", "", 0},
		{"^a", "aaaaaa", 1}, {"a$", "aaaaaa", 1}, {"^a|a$", "aaaaaa", 2}, {"^a|a$", "a", 1}, {"^a*", "aaaa", 1}, {"a*$", "aaaa", 1}, {"^aa|a", "aaaa", 3}, {"(^|b)a", "abaaba", 3}, {"a(b|$)", "aabaa", 2}, {"中", "中a中", 2},
	} {
		n, p := read(t, x.s)
		l := []rune(x.l)
		holdCount(t, p, x.s, l, x.want)
		check(t, p, n, l)
	}
}

// P16.1: a line that is nil or empty, with room or none, at any place.
func TestEmptyLine(t *testing.T) {
	roomy := []rune{'a', 'a', 'a', 'a'}[:0]
	for _, s := range []string{"a", "a*", ".", ".*", "^", "$", "^$", "(^|$)", "(a|^)*", "a{0}", "^a*$", "[^a]"} {
		n, p := read(t, s)
		for _, l := range [][]rune{nil, {}, roomy} {
			check(t, p, n, l)
			for _, at := range far() {
				holdAt(t, p, s, l, at, 0)
				holdNext(t, p, s, l, at, none)
				holdLast(t, p, s, l, at, none)
			}
		}
	}
}

// P16.1: what stands in the room behind a line is not of it.
func TestRoomBehind(t *testing.T) {
	for _, s := range []string{"a", "aa", "a*", "aab", "a.*", "a$", "a*b", "(a|ab)(a|b|$)", "b", ".", "a*$"} {
		n, p := read(t, s)
		for _, long := range []int{1, 2, 3} {
			check(t, p, n, []rune("aaabbaab")[:long])
		}
	}
}

// P16.1: with no machine there is nothing.
func TestNoMachine(t *testing.T) {
	var zero nfa.Prog
	for _, p := range []*nfa.Prog{nil, &zero} {
		for _, l := range [][]rune{nil, {}, {'a'}, []rune("aab")} {
			for _, at := range append(far(), -1, 0, 1, 2, 3, 4) {
				holdAt(t, p, "no machine", l, at, 0)
				holdNext(t, p, "no machine", l, at, none)
				holdLast(t, p, "no machine", l, at, none)
			}
			holdCount(t, p, "no machine", l, 0)
		}
	}
}

// P16.1: signs that may not be are signs as others.
func TestAnySigns(t *testing.T) {
	l := []rune{math.MinInt32, -1, 'a', 0, 0xD800, 0xFFFD, 'a', 0x10FFFF, 0x110000, math.MaxInt32, 'a'}
	for _, s := range []string{".", ".*", "[^a]", "[^a]+", "a", "a.", ".a", "[^a]*a", "a$", "^."} {
		n, p := read(t, s)
		check(t, p, n, l)
		check(t, p, n, slices.Repeat(l, 3))
	}
}
