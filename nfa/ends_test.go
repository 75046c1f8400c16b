package nfa_test

import (
	"math"
	"slices"
	"strings"
	"testing"

	"rotulus/api"
	"rotulus/nfa"
)

// some is a text, a place in it, and what is to be told.
type some struct {
	l    string
	at   int
	want []int
}

// hold holds Ends of a pattern against what is written out and against the model.
func hold(t *testing.T, n api.Node, cases ...some) {
	t.Helper()
	p := machine(t, n)
	for _, x := range cases {
		l := []rune(x.l)
		ends(t, p, n, l, x.at, x.want)
		check(t, p, n, l)
	}
}

// holdRead is hold of a pattern that is written.
func holdRead(t *testing.T, s string, cases ...some) {
	t.Helper()
	hold(t, read(t, s), cases...)
}

// is are the places, none twice.
func is(l ...int) []int { return l }

// P15.1: signs, one behind the other, and one of several.
func TestRowsAndAlternations(t *testing.T) {
	holdRead(t, "a", some{"aab", 0, is(1)}, some{"aab", 1, is(2)}, some{"aab", 2, nil}, some{"aab", 3, nil}, some{"", 0, nil})
	holdRead(t, "ab", some{"ab", 0, is(2)}, some{"aab", 1, is(3)}, some{"aab", 0, nil}, some{"a", 0, nil}, some{"abab", 2, is(4)})
	holdRead(t, "abc", some{"abc", 0, is(3)}, some{"abd", 0, nil}, some{"ab", 0, nil}, some{"abcabc", 3, is(6)})
	holdRead(t, "(ab)(cd)", some{"abcd", 0, is(4)}, some{"abdc", 0, nil})
	holdRead(t, "a(b(cd)e)f", some{"abcdef", 0, is(6)}, some{"abcdf", 0, nil})
	holdRead(t, "a|b", some{"ab", 0, is(1)}, some{"ab", 1, is(2)}, some{"c", 0, nil}, some{"", 0, nil})
	holdRead(t, "a|a", some{"aa", 0, is(1)})
	holdRead(t, "a|ab|abc|b", some{"abcd", 0, is(1, 2, 3)}, some{"abcd", 1, is(2)}, some{"ab", 0, is(1, 2)})
	holdRead(t, "abc|ab|a", some{"abcd", 0, is(1, 2, 3)})
	holdRead(t, "abc|abd", some{"abd", 0, is(3)}, some{"abc", 0, is(3)}, some{"abe", 0, nil})
	holdRead(t, "(a|ab)(bc|c)", some{"abc", 0, is(3)}, some{"abbc", 0, is(4)}, some{"ac", 0, is(2)})
	holdRead(t, "(a|ab)(c|bcd)(d*)", some{"abcd", 0, is(3, 4)})
	holdRead(t, "a|(b|(c|d))", some{"d", 0, is(1)}, some{"a", 0, is(1)}, some{"e", 0, nil})
	holdRead(t, "a|bc", some{"bc", 0, is(2)}, some{"ac", 0, is(1)}, some{"b", 0, nil})
	holdRead(t, "a|b|c|d|e|f|g|h", some{"h", 0, is(1)}, some{"i", 0, nil}, some{"d", 0, is(1)})
}

// P15.1: repeats.
func TestRepeats(t *testing.T) {
	holdRead(t, "a*", some{"aab", 0, is(0, 1, 2)}, some{"aab", 1, is(1, 2)}, some{"aab", 2, is(2)}, some{"aab", 3, is(3)}, some{"", 0, is(0)})
	holdRead(t, "a+", some{"aab", 0, is(1, 2)}, some{"aab", 2, nil}, some{"", 0, nil}, some{"a", 0, is(1)})
	holdRead(t, "a?", some{"aab", 0, is(0, 1)}, some{"aab", 2, is(2)}, some{"", 0, is(0)})
	holdRead(t, "a{0}", some{"aa", 0, is(0)}, some{"aa", 1, is(1)}, some{"aa", 2, is(2)}, some{"", 0, is(0)})
	holdRead(t, "a{0,0}", some{"aa", 0, is(0)}, some{"b", 0, is(0)})
	holdRead(t, "a{1}", some{"aa", 0, is(1)}, some{"b", 0, nil})
	holdRead(t, "a{2}", some{"aaaa", 0, is(2)}, some{"aaaa", 2, is(4)}, some{"aaaa", 3, nil}, some{"ab", 0, nil})
	holdRead(t, "a{0,}", some{"aaa", 0, is(0, 1, 2, 3)})
	holdRead(t, "a{1,}", some{"aaa", 0, is(1, 2, 3)}, some{"aaa", 3, nil})
	holdRead(t, "a{2,}", some{"aaaa", 0, is(2, 3, 4)}, some{"aaaa", 2, is(4)}, some{"a", 0, nil})
	holdRead(t, "a{0,1}", some{"aaa", 0, is(0, 1)})
	holdRead(t, "a{0,2}", some{"aaa", 0, is(0, 1, 2)}, some{"ab", 0, is(0, 1)})
	holdRead(t, "a{1,3}", some{"aaaa", 0, is(1, 2, 3)}, some{"aaaa", 3, is(4)}, some{"b", 0, nil})
	holdRead(t, "a{2,3}", some{"aaaa", 0, is(2, 3)}, some{"aa", 0, is(2)}, some{"a", 0, nil})
	long := strings.Repeat("a", 12)
	holdRead(t, "a{9}", some{long, 0, is(9)}, some{long, 3, is(12)}, some{long, 4, nil})
	holdRead(t, "a{9,}", some{long, 0, is(9, 10, 11, 12)}, some{long, 3, is(12)}, some{long, 4, nil})
	holdRead(t, "a{0,9}", some{long, 0, to(0, 9)}, some{long, 6, to(6, 12)})
	holdRead(t, "a{8,9}", some{long, 0, is(8, 9)}, some{long, 4, is(12)}, some{long, 5, nil})
	holdRead(t, "a{9,9}", some{long, 1, is(10)})
	holdRead(t, "a{9}a{9}", some{strings.Repeat("a", 20), 0, is(18)}, some{strings.Repeat("a", 17), 0, nil})
	holdRead(t, "(ab)*", some{"ababa", 0, is(0, 2, 4)}, some{"ababa", 1, is(1)}, some{"ababa", 2, is(2, 4)})
	holdRead(t, "(ab){2}", some{"ababab", 0, is(4)}, some{"ababab", 2, is(6)}, some{"abaab", 0, nil})
	holdRead(t, "(a|ab)*", some{"aababb", 0, is(0, 1, 2, 3, 4, 5)}, some{"abb", 0, is(0, 1, 2)})
	holdRead(t, "(a|b)*b", some{"abab", 0, is(2, 4)}, some{"aaa", 0, nil})
	holdRead(t, "(a|bb){2,3}", some{"abbabb", 0, is(3, 4)}, some{"bbbbbb", 0, is(4, 6)})
	holdRead(t, "(aa|aaa)*", some{"aaaaaaa", 0, is(0, 2, 3, 4, 5, 6, 7)})
	holdRead(t, "(aaa|aaaaa)+", some{long, 0, is(3, 5, 6, 8, 9, 10, 11, 12)})
	holdRead(t, "(a{2}){2}", some{"aaaaa", 0, is(4)})
	holdRead(t, "(a{2}){0,3}", some{"aaaaaaa", 0, is(0, 2, 4, 6)})
	holdRead(t, "(a{1,2}){2}", some{"aaaaa", 0, is(2, 3, 4)})
	holdRead(t, "(a{3,4}){2,}", some{long, 0, is(6, 7, 8, 9, 10, 11, 12)})
	holdRead(t, "(a{4}){2}|a{3}", some{long, 0, is(3, 8)})
	holdRead(t, "a*b*", some{"aabb", 0, is(0, 1, 2, 3, 4)}, some{"ba", 0, is(0, 1)})
	holdRead(t, "a*ab", some{"aaab", 0, is(4)}, some{"b", 0, nil}, some{"ab", 0, is(2)})
	holdRead(t, ".*b.*", some{"aba", 0, is(2, 3)}, some{"aaa", 0, nil})
}

// P15.1: repeats of what may be nothing.
func TestRepeatsOfNothing(t *testing.T) {
	for _, s := range []string{"(a*)*", "(a*)+", "(a+)*", "(a?)*", "(a?)+", "(a*){3}", "(a*){2,}", "(a*)?", "((a*)*)*", "((a?)+){2,5}", "(a*|b{0})*", "(a{0}|a)*", "(a?|^)*", "(a*|$)+", "(^|a)*", "($|a)*", "(a|^|$)*", "((^)*a?)*", "(a*a*)*", "(a?a?)+", "(a{0,9}){0,}", "a*(^)*", "($)*a*", "(a{0}){5}a*", "((a|b{0}){2})*"} {
		holdRead(t, s, some{"aab", 0, is(0, 1, 2)}, some{"aab", 1, is(1, 2)}, some{"aab", 2, is(2)}, some{"aab", 3, is(3)}, some{"", 0, is(0)})
	}
	for _, s := range []string{"(a{0})*", "(a{0}){9}", "(a{0}){0}", "((a{0})*)*", "(a{0}){3,}", "(a{0}b{0})+", "a{0}|b{0}", "((a*)*){0}", "(^){0}", "($){0,0}", "(^)?", "($)?", "(^|$)*", "(^$)*", "(^)*($)*", "((^)*|($)*){2}"} {
		holdRead(t, s, some{"aab", 0, is(0)}, some{"aab", 1, is(1)}, some{"aab", 3, is(3)}, some{"", 0, is(0)})
	}
	holdRead(t, "(a?){3}", some{"aaaa", 0, is(0, 1, 2, 3)}, some{"aaaa", 3, is(3, 4)})
	holdRead(t, "(a?){3,}", some{"aaaaa", 0, is(0, 1, 2, 3, 4, 5)})
	holdRead(t, "(a?b?){2}", some{"abab", 0, is(0, 1, 2, 3, 4)}, some{"ababab", 0, is(0, 1, 2, 3, 4)}, some{"bbb", 0, is(0, 1, 2)})
	holdRead(t, "(a*b*)+", some{"abba", 1, is(1, 2, 3, 4)})
	holdRead(t, "(a*b)*", some{"aabab", 0, is(0, 3, 5)}, some{"aa", 0, is(0)})
	holdRead(t, "(a?b){2}", some{"abb", 0, is(3)}, some{"bb", 0, is(2)}, some{"b", 0, nil})
	holdRead(t, "(a{0}b){2}", some{"bb", 0, is(2)}, some{"b", 0, nil})
}

// P15.1: the bounds.
func TestBounds(t *testing.T) {
	holdRead(t, "^", some{"ab", 0, is(0)}, some{"ab", 1, nil}, some{"ab", 2, nil}, some{"", 0, is(0)})
	holdRead(t, "$", some{"ab", 0, nil}, some{"ab", 1, nil}, some{"ab", 2, is(2)}, some{"", 0, is(0)})
	holdRead(t, "^$", some{"", 0, is(0)}, some{"a", 0, nil}, some{"a", 1, nil})
	holdRead(t, "$^", some{"", 0, is(0)}, some{"a", 0, nil}, some{"a", 1, nil})
	holdRead(t, "^^", some{"a", 0, is(0)}, some{"a", 1, nil})
	holdRead(t, "$$", some{"a", 0, nil}, some{"a", 1, is(1)})
	holdRead(t, "^|$", some{"ab", 0, is(0)}, some{"ab", 1, nil}, some{"ab", 2, is(2)})
	holdRead(t, "^a", some{"aa", 0, is(1)}, some{"aa", 1, nil})
	holdRead(t, "a$", some{"aa", 0, nil}, some{"aa", 1, is(2)})
	holdRead(t, "^a$", some{"a", 0, is(1)}, some{"aa", 0, nil}, some{"aa", 1, nil})
	holdRead(t, "^a*$", some{"aa", 0, is(2)}, some{"aa", 1, nil}, some{"aab", 0, nil}, some{"", 0, is(0)})
	holdRead(t, "a^", some{"a", 0, nil}, some{"aa", 0, nil})
	holdRead(t, "a^b", some{"ab", 0, nil}, some{"b", 0, nil})
	holdRead(t, "a*^b", some{"ab", 0, nil}, some{"b", 0, is(1)}, some{"ab", 1, nil})
	holdRead(t, "$a", some{"a", 0, nil}, some{"aa", 1, nil})
	holdRead(t, "b$a*", some{"b", 0, is(1)}, some{"ba", 0, nil})
	holdRead(t, "a\n^b", some{"a\nb", 0, nil})
	holdRead(t, "a$\nb", some{"a\nb", 0, nil})
	holdRead(t, "a$", some{"a\n", 0, nil})
	holdRead(t, "(^|b)a", some{"aba", 0, is(1)}, some{"aba", 1, is(3)}, some{"aba", 2, nil})
	holdRead(t, "a(b|$)", some{"aba", 0, is(2)}, some{"aba", 2, is(3)}, some{"aca", 0, nil})
	holdRead(t, "(a$|a)a?", some{"aa", 0, is(1, 2)}, some{"aa", 1, is(2)})
	holdRead(t, "(^a){2}", some{"aa", 0, nil})
	holdRead(t, "(^a)+", some{"aa", 0, is(1)}, some{"aa", 1, nil})
	holdRead(t, "(^a)*", some{"aa", 0, is(0, 1)}, some{"aa", 1, is(1)})
	holdRead(t, "(a$)*", some{"aa", 0, is(0)}, some{"aa", 1, is(1, 2)})
	holdRead(t, "(^)+", some{"a", 0, is(0)}, some{"a", 1, nil})
	holdRead(t, "($)+", some{"a", 1, is(1)}, some{"a", 0, nil})
	holdRead(t, "(^){9}", some{"a", 0, is(0)}, some{"a", 1, nil})
	holdRead(t, "($){2,4}a{0}", some{"a", 1, is(1)}, some{"a", 0, nil})
	holdRead(t, "(^|$){3}", some{"ab", 0, is(0)}, some{"ab", 1, nil}, some{"ab", 2, is(2)}, some{"", 0, is(0)})
	holdRead(t, "(^|$|a){3}", some{"a", 0, is(0, 1)}, some{"aa", 0, is(0, 1, 2)}, some{"aaa", 1, is(3)}, some{"aaaa", 0, is(0, 1, 2, 3)}, some{"aaaa", 1, is(4)})
	holdRead(t, "(^$){3}", some{"", 0, is(0)}, some{"a", 0, nil})
	holdRead(t, "(^)*a", some{"aa", 0, is(1)}, some{"aa", 1, is(2)})
	holdRead(t, "(^)?a($)?", some{"aa", 0, is(1)}, some{"aa", 1, is(2)})
	holdRead(t, "(^)+a", some{"aa", 1, nil})
	holdRead(t, "(^b|a)*$", some{"baa", 0, is(3)}, some{"baa", 1, is(3)}, some{"baba", 0, nil}, some{"baba", 3, is(4)})
}

// P15.1: signs of a set and of the others; a sign is a sign, whatever it is.
func TestSets(t *testing.T) {
	all := []rune{math.MinInt32, -1, 0, 1, '\n', 0x7F, 0x80, 0x4E2C, 0x4E2D, 0x4E2E, 0xD7FF, 0xD800, 0xDFFF, 0xE000, 0xFFFC, 0xFFFD, 0xFFFE, 0xFFFF, 0x10000, 0x1F600, 0x10FFFE, 0x10FFFF, 0x110000, math.MaxInt32}
	for r := rune(' '); r < 0x7F; r++ {
		all = append(all, r)
	}
	for _, n := range []api.Node{
		set('a', 'a'), set(0, 0), set(0x10FFFF, 0x10FFFF), set(0x4E2D, 0x4E2D), set('a', 'z'), set(0, 0x10FFFF), set(0xD7FF, 0xE000), set(0xFFFC, 0xFFFE), set(0x4E2D, 0x1F600),
		set('a', 'a', 'c', 'c', 'e', 'e'), set('e', 'e', 'c', 'c', 'a', 'a'), set('a', 'c', 'd', 'f'), set('d', 'f', 'a', 'c'), set('a', 'c', 'c', 'f'), set('a', 'z', 'c', 'f'), set('c', 'f', 'a', 'z'), set('a', 'a', 'a', 'a'), set('a', 'z', 'b', 'c', 'x', 'y'), set('a', 'd', 'b', 'f', 'c', 'e', 'g', 'g', 'i', 'i'), set('m', 'p', 'a', 'c', 'x', 'z', 'n', 'o', 'b', 'd', 'w', 'w'), set('a', 'c', 'e', 'g', 'b', 'f'), set('a', 'b', 'a', 'f', 'a', 'd'), set('y', 'z', 'a', 'z', 'g', 'h'), set('a', 'z', 'a', 'b', 'y', '~'),
		set(0, 'm', 'l', 0x10FFFF), set(0x10FFFF, 0x10FFFF, 0, 0, 'a', 'a'), set(0, 0x10FFFF, 0x10FFFF, 0x10FFFF, 0, 0), set(0xE000, 0x10FFFF, 0, 0xD7FF), set('a', 'c', 'A', 'C', '0', '9', '_', '_', '-', '-'),
		anySign,
	} {
		for _, n := range []api.Node{n, not(n)} {
			p := machine(t, n)
			for _, r := range all {
				check(t, p, n, []rune{r})
				check(t, p, n, []rune{'a', r, 'a'})
			}
			plus := rep(n, 1, -1)
			many := machine(t, plus)
			for i := 0; i < len(all); i += 40 {
				check(t, many, plus, all[i:min(i+50, len(all))])
			}
		}
	}
	holdRead(t, ".", some{"\n", 0, is(1)}, some{"中", 0, is(1)}, some{"\ufffd", 0, is(1)}, some{"", 0, nil})
	holdRead(t, "[a-c]+", some{"abcd", 0, is(1, 2, 3)}, some{"`a", 0, nil})
	holdRead(t, "[^a-c]+", some{"xyb", 0, is(1, 2)}, some{"a", 0, nil}, some{"", 0, nil})
	holdRead(t, "[ca]", some{"abc", 0, is(1)}, some{"abc", 1, nil}, some{"abc", 2, is(3)})
	holdRead(t, "中{2}", some{"中中中", 0, is(2)}, some{"中文", 0, nil})
	hold(t, not(set(0, 0x10FFFF)), some{"a", 0, nil}, some{"\x00", 0, nil})
	hold(t, rep(anySign, 0, -1), some{"\x00\n中", 0, is(0, 1, 2, 3)})
}

// P15.1: places outside of the text; no text.
func TestOutside(t *testing.T) {
	for _, s := range []string{"a", "a*", "^", "$", "^$", "a{0}", "(a|$)*", ".", ".*", "(^)*"} {
		n := read(t, s)
		p := machine(t, n)
		for _, l := range [][]rune{nil, {}, []rune("a"), []rune("aa"), []rune("ab"), slices.Repeat([]rune("a"), 50)} {
			for _, at := range []int{-1, -2, len(l) + 1, len(l) + 2, 1 << 31, 1 << 32, math.MinInt, math.MinInt + 1, math.MaxInt, math.MaxInt - 1} {
				if got := p.Ends(l, at); got != nil {
					t.Errorf("P15.1: Ends of %s over %d signs from %d are %v", s, len(l), at, got)
				}
			}
			check(t, p, n, l)
			roomy := append(slices.Clone(l), 'a', 'a', 'a')[:len(l)]
			check(t, p, n, roomy)
			ends(t, p, n, roomy, len(l)+1, nil)
		}
		if x, y := p.Ends(nil, 0), p.Ends([]rune{}, 0); !slices.Equal(x, y) {
			t.Errorf("P0.4: Ends of %s are %v, %v", s, x, y)
		}
	}
}

// P15.1: what takes for ever by trying, or by going over the text again, is told soon.
func TestLong(t *testing.T) {
	const long = 2000
	l := slices.Repeat([]rune{'a'}, long)
	for _, x := range []struct {
		s    string
		want []int
	}{
		{"(a*)*b", nil}, {"(a|a)*b", nil}, {"(a|aa)*b", nil}, {"((a+)+)+$", is(long)}, {"((((a*)*)*)*)*", to(0, long)}, {"(a*a*a*a*)*", to(0, long)}, {".*.*.*.*.*.*.*.*b", nil}, {"(a?){9}(a?){9}a{9}b", nil}, {"(a?){9}a{9}", to(9, 18)}, {"(((a?){9}){9}){9}a", to(1, 730)}, {"((((a?){9}){9}){9}){9}", to(0, long)}, {"((((.*){9}){9}){9}){9}b", nil}, {"((((a{9}){9}){9}){9}){2}", nil}, {"(((a{9}){9}){9}){2,}", is(1458)}, {"(((a{1,9}){1,9}){1,9}){1,9}$", is(long)}, {"((((a|b|.)*){9}){9}){9}", to(0, long)}, {"((((a*|^|$){9}){9}){9}){2}", to(0, long)}, {"(((($)*a?){9}){9}){9}b", nil},
	} {
		n := read(t, x.s)
		soon(t, func() { ends(t, machine(t, n), n, l, 0, x.want) })
	}
	n := weighing(20000)
	soon(t, func() {
		ends(t, machine(t, n), n, l, 0, nil)
		ends(t, machine(t, rep(weighing(19999), 0, -1)), n, slices.Concat(l, l, l), 0, is(0))
	})
}

// P15.1: a text of very many signs, and sets of very many ranges.
func TestVeryLong(t *testing.T) {
	const many = 1 << 20
	l := slices.Repeat([]rune("ab"), many/2)
	for _, x := range []struct {
		s    string
		at   int
		want []int
	}{{"(ab)*$", 0, is(many)}, {".*", 0, to(0, many)}, {".*", many, is(many)}, {"(a|b)*c", 0, nil}, {"^(ab)+a", 2, nil}, {"[^c]{2,}$", many - 3, is(many)}, {"b", 0, nil}} {
		n := read(t, x.s)
		soon(t, func() { ends(t, machine(t, n), n, l, x.at, x.want) })
	}

	var wide api.Node = set()
	for r := rune(0x10000); r < 0x100000; r += 4 {
		wide.Set = append(wide.Set, api.Range{Lo: r + 1, Hi: r + 2})
	}
	slices.Reverse(wide.Set[1000:])
	in := make([]rune, many)
	for i := range in {
		in[i] = 0x10000 + rune(i*3%0xF0000)/4*4 + 1 + rune(i%2)
	}
	out := slices.Clone(in)
	for i := range out {
		out[i] = out[i]/4*4 + 3*rune(i%2)
	}
	for _, x := range []struct {
		set  api.Node
		l    []rune
		want []int
	}{{wide, in, is(many)}, {not(wide), in, nil}, {wide, out, nil}, {not(wide), out, is(many)}} {
		n := cat(rep(x.set, 1, -1), end)
		heavy := nest(alt(x.set, x.set, b), 4, times9)
		soon(t, func() {
			ends(t, machine(t, n), end, x.l, 0, x.want)
			p, err := nfa.Compile(heavy)
			if err != api.ErrFull || p != nil {
				t.Errorf("P15.1: Compile of sets of many ranges, too heavy: %v", err)
			}
			machine(t, nest(x.set, 4, times9))
		})
	}
}
