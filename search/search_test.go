package search_test

import (
	"math"
	"slices"
	"strings"
	"testing"

	"rotulus/api"
	"rotulus/cell"
	"rotulus/nfa"
	"rotulus/regex"
	"rotulus/search"
)

// machine is that of the pattern s.
func machine(t *testing.T, s string) *nfa.Prog {
	t.Helper()
	n, err := regex.Parse(s)
	if err != api.OK {
		t.Fatalf("Parse(%q): %v", s, err)
	}
	p, err := nfa.Compile(n)
	if err != api.OK {
		t.Fatalf("Compile(%q): %v", s, err)
	}
	return p
}

// readLine makes the cells of a line of a text, a capital letter with the attribute 255.
func readLine(s string) []api.Cell {
	var l []api.Cell
	for _, r := range s {
		c := api.Cell{R: r, W: 1}
		switch {
		case r >= 0x1100:
			c.W = 2
		case 'A' <= r && r <= 'Z':
			c.A = 255
		}
		l = append(l, c)
	}
	return l
}

// readLines makes lines of a text, with a / between two.
func readLines(s string) [][]api.Cell {
	var ls [][]api.Cell
	for _, l := range strings.Split(s, "/") {
		ls = append(ls, readLine(l))
	}
	return ls
}

// longs tells how long the lines are.
func longs(ls [][]api.Cell) []int {
	var out []int
	for _, l := range ls {
		out = append(out, len(l))
	}
	return out
}

// at is a place in lines, and yes a hit, in short.
func at(line, off int) api.Spot    { return api.Spot{Line: line, Off: off} }
func yes(line, off, long int) told { return told{api.Hit{Line: line, Off: off, Len: long}, true} }
func spotOf(h api.Hit) api.Spot    { return at(h.Line, h.Off) }

// short is the beginning of what lines say.
func short(ls [][]api.Cell) string {
	var out []string
	for _, l := range ls[:min(len(ls), 9)] {
		out = append(out, cell.Text(l[:min(len(l), 40)]))
	}
	return strings.Join(out, "/")
}

// holdForward holds Forward against what is wanted.
func holdForward(t *testing.T, p *nfa.Prog, what string, ls [][]api.Cell, from api.Spot, want told) {
	t.Helper()
	if hit, ok := search.Forward(ls, p, from); (told{hit, ok}) != want {
		t.Errorf("P17.1: Forward of %s in %q from %v is %v, %v, not %v", what, short(ls), from, hit, ok, want)
	}
}

// holdBackward holds Backward against what is wanted.
func holdBackward(t *testing.T, p *nfa.Prog, what string, ls [][]api.Cell, from api.Spot, want told) {
	t.Helper()
	if hit, ok := search.Backward(ls, p, from); (told{hit, ok}) != want {
		t.Errorf("P17.1: Backward of %s in %q from %v is %v, %v, not %v", what, short(ls), from, hit, ok, want)
	}
}

// holdNone holds that nothing is told, either way, from any of these places.
func holdNone(t *testing.T, p *nfa.Prog, what string, ls [][]api.Cell, all []api.Spot) {
	t.Helper()
	for _, from := range all {
		holdForward(t, p, what, ls, from, none)
		holdBackward(t, p, what, ls, from, none)
	}
}

// near are all places of lines, and some just outside of them.
func near(ls [][]api.Cell) []api.Spot {
	var out []api.Spot
	for number := -1; number <= len(ls); number++ {
		long := 0
		if number >= 0 && number < len(ls) {
			long = len(ls[number])
		}
		for off := -1; off <= long+1; off++ {
			out = append(out, at(number, off))
		}
	}
	return out
}

// far are places that are far outside of any lines.
func far() []api.Spot {
	var out []api.Spot
	for _, x := range []int{math.MinInt, math.MinInt + 1, -1 << 32, -1 << 31, -100, 1 << 20, 1 << 31, 1 << 32, math.MaxInt - 1, math.MaxInt} {
		out = append(out, at(0, x), at(1, x), at(x, 0), at(x, 1), at(x, x), at(x, -1), at(-1, x), at(x, math.MaxInt), at(x, math.MinInt))
	}
	return out
}

// check holds both ways of p in ls from all these places against the list of all hits there are.
func check(t *testing.T, p *nfa.Prog, what string, ls [][]api.Cell, hits []api.Hit, all []api.Spot) {
	t.Helper()
	long := longs(ls)
	for _, from := range all {
		holdForward(t, p, what, ls, from, forwardOf(hits, long, from))
		holdBackward(t, p, what, ls, from, backwardOf(hits, long, from))
	}
	if t.Failed() {
		t.FailNow()
	}
}

// checkText is check of a pattern and lines that are written, from all places and outside of them.
func checkText(t *testing.T, s, text string) {
	t.Helper()
	ls := readLines(text)
	check(t, machine(t, s), s, ls, newBook(s, len(text)).hits(text), append(near(ls), far()...))
}

// P17.1: the signs of cells, one of each.
func TestSigns(t *testing.T) {
	roomy := append(readLine("abc"), readLine("xyz")...)
	for _, x := range []struct {
		l    []api.Cell
		want []rune
	}{
		{nil, nil}, {[]api.Cell{}, nil}, {roomy[:0], nil}, {roomy[:1], []rune{'a'}}, {roomy[:3], []rune("abc")},
		{readLine("a"), []rune{'a'}}, {readLine(" "), []rune{' '}}, {readLine("中"), []rune{0x4E2D}}, {readLine("a中b文"), []rune{'a', 0x4E2D, 'b', 0x6587}}, {readLine("😀"), []rune{0x1F600}}, {readLine("aBC d "), []rune("aBC d ")},
		{[]api.Cell{{R: 0xFFFD, W: 1}, {R: 'a', W: 1, A: 7}, {R: ' ', W: 1, A: 255}}, []rune{0xFFFD, 'a', ' '}},
		// Such as are no line: each cell counts.
		{cell.Of(0x4E2D, 7), []rune{0x4E2D, 0}}, {[]api.Cell{cell.Pad(), cell.Blank()}, []rune{0, ' '}}, {[]api.Cell{{R: -1, W: 9, A: -1}, {R: math.MaxInt32}, {R: 0xD800, W: -1}}, []rune{-1, math.MaxInt32, 0xD800}},
	} {
		if got := search.Signs(x.l); !slices.Equal(got, x.want) {
			t.Errorf("P17.1: Signs of %v are %v, not %v", x.l, got, x.want)
		}
	}
	many := slices.Repeat(readLine("a中b"), 1<<16)
	if got := search.Signs(many); !slices.Equal(got, slices.Repeat([]rune("a中b"), 1<<16)) {
		t.Errorf("P17.1: Signs of %d cells are %d others", len(many), len(got))
	}
}

// way is a place, and what is told from it.
type way struct {
	from api.Spot
	want told
}

// written is a pattern, lines, and what is told in them.
type written struct {
	s, text string
	want    []way
}

// hold holds what is written by one of holdForward and holdBackward, and both against the model.
func (x written) hold(t *testing.T, by func(*testing.T, *nfa.Prog, string, [][]api.Cell, api.Spot, told)) {
	t.Helper()
	p, ls := machine(t, x.s), readLines(x.text)
	for _, y := range x.want {
		by(t, p, x.s, ls, y.from, y.want)
	}
	checkText(t, x.s, x.text)
}

// P17.1: the nearest one behind a place.
func TestForward(t *testing.T) {
	for _, x := range []written{
		// In the line, from ahead of a hit, from it, from within it, from behind it.
		{"ab+", "xabbxabx", []way{{at(0, 0), yes(0, 1, 3)}, {at(0, 1), yes(0, 5, 2)}, {at(0, 2), yes(0, 5, 2)}, {at(0, 3), yes(0, 5, 2)}, {at(0, 4), yes(0, 5, 2)}, {at(0, 5), yes(0, 1, 3)}, {at(0, 6), yes(0, 1, 3)}, {at(0, 7), yes(0, 1, 3)}, {at(0, 8), yes(0, 1, 3)}}},
		// In another line, and round.
		{"b", "ab/cc/bc", []way{{at(0, 0), yes(0, 1, 1)}, {at(0, 1), yes(2, 0, 1)}, {at(0, 2), yes(2, 0, 1)}, {at(1, 0), yes(2, 0, 1)}, {at(1, 1), yes(2, 0, 1)}, {at(1, 2), yes(2, 0, 1)}, {at(2, 0), yes(0, 1, 1)}, {at(2, 1), yes(0, 1, 1)}, {at(2, 2), yes(0, 1, 1)}}},
		// One further ahead in the same line is nearer than the one at the place.
		{"b", "cc/babc/cc", []way{{at(1, 0), yes(1, 2, 1)}, {at(1, 1), yes(1, 2, 1)}, {at(1, 2), yes(1, 0, 1)}, {at(1, 3), yes(1, 0, 1)}, {at(2, 0), yes(1, 0, 1)}, {at(0, 0), yes(1, 0, 1)}}},
		// So is one in a line ahead, and of several ahead in the same line the first one.
		{"b", "cb/cb/cb", []way{{at(2, 1), yes(0, 1, 1)}, {at(0, 1), yes(1, 1, 1)}, {at(1, 1), yes(2, 1, 1)}, {at(1, 2), yes(2, 1, 1)}, {at(2, 0), yes(2, 1, 1)}}},
		{"b", "bbbb", []way{{at(0, 0), yes(0, 1, 1)}, {at(0, 2), yes(0, 3, 1)}, {at(0, 3), yes(0, 0, 1)}, {at(0, 4), yes(0, 0, 1)}}},
		{"b", "bbb/c", []way{{at(0, 2), yes(0, 0, 1)}, {at(1, 1), yes(0, 0, 1)}}},
		// There is none but the one at the place.
		{"b", "ac/abc/c", []way{{at(1, 1), yes(1, 1, 1)}, {at(1, 0), yes(1, 1, 1)}, {at(1, 2), yes(1, 1, 1)}, {at(2, 0), yes(1, 1, 1)}, {at(0, 2), yes(1, 1, 1)}}},
		{"b", "b", []way{{at(0, 0), yes(0, 0, 1)}, {at(0, 1), yes(0, 0, 1)}}},
		{"abc", "abc", []way{{at(0, 0), yes(0, 0, 3)}, {at(0, 1), yes(0, 0, 3)}, {at(0, 3), yes(0, 0, 3)}}},
		// Each place counts by itself, and the longest there.
		{"aa", "aaaa", []way{{at(0, 0), yes(0, 1, 2)}, {at(0, 1), yes(0, 2, 2)}, {at(0, 2), yes(0, 0, 2)}, {at(0, 3), yes(0, 0, 2)}, {at(0, 4), yes(0, 0, 2)}}},
		{"a+", "aaa/aa", []way{{at(0, 0), yes(0, 1, 2)}, {at(0, 1), yes(0, 2, 1)}, {at(0, 2), yes(1, 0, 2)}, {at(1, 0), yes(1, 1, 1)}, {at(1, 1), yes(0, 0, 3)}}},
		{"a|ab|abc", "abab/xabcx", []way{{at(0, 0), yes(0, 2, 2)}, {at(0, 2), yes(1, 1, 3)}, {at(1, 1), yes(0, 0, 2)}}},
		{"aba|b", "ababa", []way{{at(0, 0), yes(0, 1, 1)}, {at(0, 1), yes(0, 2, 3)}, {at(0, 2), yes(0, 3, 1)}, {at(0, 3), yes(0, 0, 3)}}},
		{"a*", "baab/aa", []way{{at(0, 0), yes(0, 1, 2)}, {at(0, 1), yes(0, 2, 1)}, {at(0, 2), yes(1, 0, 2)}, {at(0, 4), yes(1, 0, 2)}}},
		// A match does not go on in the next line.
		{"ab", "a/b/ab/a", []way{{at(0, 0), yes(2, 0, 2)}, {at(2, 0), yes(2, 0, 2)}, {at(3, 0), yes(2, 0, 2)}}},
		// Wide signs count as one.
		{"文.", "中文中/文中", []way{{at(0, 0), yes(0, 1, 2)}, {at(0, 1), yes(1, 0, 2)}, {at(1, 0), yes(0, 1, 2)}}},
		{"[a-z]+", "aB cD/E f", []way{{at(0, 0), yes(0, 3, 1)}, {at(0, 3), yes(1, 2, 1)}, {at(1, 2), yes(0, 0, 1)}}},
	} {
		x.hold(t, holdForward)
	}
}

// P17.1: the nearest one ahead of a place.
func TestBackward(t *testing.T) {
	for _, x := range []written{
		// In the line, from behind a hit, from within it, from it, from ahead of it.
		{"ab+", "xabbxabx", []way{{at(0, 8), yes(0, 5, 2)}, {at(0, 7), yes(0, 5, 2)}, {at(0, 6), yes(0, 5, 2)}, {at(0, 5), yes(0, 1, 3)}, {at(0, 4), yes(0, 1, 3)}, {at(0, 3), yes(0, 1, 3)}, {at(0, 2), yes(0, 1, 3)}, {at(0, 1), yes(0, 5, 2)}, {at(0, 0), yes(0, 5, 2)}}},
		// In another line, and round.
		{"b", "ab/cc/bc", []way{{at(2, 2), yes(2, 0, 1)}, {at(2, 1), yes(2, 0, 1)}, {at(2, 0), yes(0, 1, 1)}, {at(1, 2), yes(0, 1, 1)}, {at(1, 0), yes(0, 1, 1)}, {at(0, 2), yes(0, 1, 1)}, {at(0, 1), yes(2, 0, 1)}, {at(0, 0), yes(2, 0, 1)}}},
		// One further on in the same line is nearer than the one at the place.
		{"b", "cc/babc/cc", []way{{at(1, 2), yes(1, 0, 1)}, {at(1, 1), yes(1, 0, 1)}, {at(1, 0), yes(1, 2, 1)}, {at(0, 0), yes(1, 2, 1)}, {at(0, 2), yes(1, 2, 1)}, {at(2, 0), yes(1, 2, 1)}}},
		// So is one in a line behind, and of several further on in the same line the last one.
		{"b", "cb/cb/cb", []way{{at(0, 1), yes(2, 1, 1)}, {at(0, 0), yes(2, 1, 1)}, {at(0, 2), yes(0, 1, 1)}, {at(2, 1), yes(1, 1, 1)}, {at(1, 1), yes(0, 1, 1)}, {at(1, 2), yes(1, 1, 1)}}},
		{"b", "bbbb", []way{{at(0, 0), yes(0, 3, 1)}, {at(0, 1), yes(0, 0, 1)}, {at(0, 3), yes(0, 2, 1)}, {at(0, 4), yes(0, 3, 1)}}},
		{"b", "c/bbb", []way{{at(1, 0), yes(1, 2, 1)}, {at(0, 0), yes(1, 2, 1)}, {at(0, 1), yes(1, 2, 1)}}},
		// There is none but the one at the place.
		{"b", "ac/abc/c", []way{{at(1, 1), yes(1, 1, 1)}, {at(1, 0), yes(1, 1, 1)}, {at(1, 2), yes(1, 1, 1)}, {at(2, 0), yes(1, 1, 1)}, {at(0, 2), yes(1, 1, 1)}, {at(0, 0), yes(1, 1, 1)}}},
		{"b", "b", []way{{at(0, 0), yes(0, 0, 1)}, {at(0, 1), yes(0, 0, 1)}}},
		{"abc", "abc", []way{{at(0, 0), yes(0, 0, 3)}, {at(0, 1), yes(0, 0, 3)}, {at(0, 3), yes(0, 0, 3)}}},
		// Each place counts by itself, and the longest there, which may reach over the place.
		{"aa", "aaaa", []way{{at(0, 4), yes(0, 2, 2)}, {at(0, 3), yes(0, 2, 2)}, {at(0, 2), yes(0, 1, 2)}, {at(0, 1), yes(0, 0, 2)}, {at(0, 0), yes(0, 2, 2)}}},
		{"a+", "aaa/aa", []way{{at(1, 2), yes(1, 1, 1)}, {at(1, 1), yes(1, 0, 2)}, {at(1, 0), yes(0, 2, 1)}, {at(0, 3), yes(0, 2, 1)}, {at(0, 2), yes(0, 1, 2)}, {at(0, 1), yes(0, 0, 3)}, {at(0, 0), yes(1, 1, 1)}}},
		{"a|ab|abc", "abab/xabcx", []way{{at(1, 5), yes(1, 1, 3)}, {at(1, 2), yes(1, 1, 3)}, {at(1, 1), yes(0, 2, 2)}, {at(0, 2), yes(0, 0, 2)}, {at(0, 0), yes(1, 1, 3)}}},
		{"aba|b", "ababa", []way{{at(0, 5), yes(0, 3, 1)}, {at(0, 3), yes(0, 2, 3)}, {at(0, 2), yes(0, 1, 1)}, {at(0, 1), yes(0, 0, 3)}, {at(0, 0), yes(0, 3, 1)}}},
		{"a*", "baab/aa", []way{{at(0, 4), yes(0, 2, 1)}, {at(0, 2), yes(0, 1, 2)}, {at(0, 1), yes(1, 1, 1)}, {at(0, 0), yes(1, 1, 1)}, {at(1, 0), yes(0, 2, 1)}}},
		// A match does not go on in the next line.
		{"ab", "a/b/ab/a", []way{{at(1, 1), yes(2, 0, 2)}, {at(2, 0), yes(2, 0, 2)}, {at(3, 1), yes(2, 0, 2)}}},
		// Wide signs count as one.
		{"文.", "中文中/文中", []way{{at(1, 2), yes(1, 0, 2)}, {at(1, 0), yes(0, 1, 2)}, {at(0, 1), yes(1, 0, 2)}}},
		{"[a-z]+", "aB cD/E f", []way{{at(1, 3), yes(1, 2, 1)}, {at(1, 2), yes(0, 3, 1)}, {at(0, 3), yes(0, 0, 1)}}},
	} {
		x.hold(t, holdBackward)
	}
}

// P17.1: the ends of each line by itself.
func TestAnchors(t *testing.T) {
	for _, x := range []struct {
		s, text string
		ways    []way // forward
		back    []way
	}{
		{"^a", "aa/ba/a", []way{{at(0, 0), yes(2, 0, 1)}, {at(0, 1), yes(2, 0, 1)}, {at(1, 0), yes(2, 0, 1)}, {at(2, 0), yes(0, 0, 1)}}, []way{{at(0, 2), yes(0, 0, 1)}, {at(0, 1), yes(0, 0, 1)}, {at(0, 0), yes(2, 0, 1)}, {at(2, 0), yes(0, 0, 1)}}},
		{"a$", "aa/ab/a", []way{{at(0, 0), yes(0, 1, 1)}, {at(0, 1), yes(2, 0, 1)}, {at(2, 0), yes(0, 1, 1)}}, []way{{at(0, 2), yes(0, 1, 1)}, {at(0, 1), yes(2, 0, 1)}, {at(2, 0), yes(0, 1, 1)}, {at(1, 2), yes(0, 1, 1)}}},
		{"^a+$", "aa/aab//a", []way{{at(0, 0), yes(3, 0, 1)}, {at(3, 0), yes(0, 0, 2)}}, []way{{at(3, 1), yes(3, 0, 1)}, {at(3, 0), yes(0, 0, 2)}, {at(0, 1), yes(0, 0, 2)}}},
		{"^.", "ab/cd", []way{{at(0, 0), yes(1, 0, 1)}, {at(1, 0), yes(0, 0, 1)}}, []way{{at(1, 2), yes(1, 0, 1)}, {at(1, 0), yes(0, 0, 1)}, {at(0, 0), yes(1, 0, 1)}}},
		{".$", "ab/cd", []way{{at(0, 0), yes(0, 1, 1)}, {at(0, 1), yes(1, 1, 1)}, {at(1, 1), yes(0, 1, 1)}}, []way{{at(1, 2), yes(1, 1, 1)}, {at(1, 1), yes(0, 1, 1)}, {at(0, 1), yes(1, 1, 1)}}},
		{"a(b|$)", "aab/a", []way{{at(0, 0), yes(0, 1, 2)}, {at(0, 1), yes(1, 0, 1)}, {at(1, 0), yes(0, 1, 2)}}, []way{{at(1, 1), yes(1, 0, 1)}, {at(1, 0), yes(0, 1, 2)}}},
	} {
		written{x.s, x.text, x.ways}.hold(t, holdForward)
		written{x.s, x.text, x.back}.hold(t, holdBackward)
	}
}

// P17.1: from outside of the lines it is the first one of all, or the last one; at the end of a line one is in it.
func TestOutside(t *testing.T) {
	for _, x := range []struct {
		s, text     string
		first, last told
	}{
		{"a", "aba/aa", yes(0, 0, 1), yes(1, 1, 1)}, {"a", "a", yes(0, 0, 1), yes(0, 0, 1)}, {"a+", "aab/baa", yes(0, 0, 2), yes(1, 2, 1)}, {"a", "/ba/", yes(1, 1, 1), yes(1, 1, 1)}, {"^a", "aa/a", yes(0, 0, 1), yes(1, 0, 1)}, {"b", "a/a", none, none}, {"a*", "/", none, none},
	} {
		p, ls := machine(t, x.s), readLines(x.text)
		all := append(far(), at(-1, 0), at(-1, 1), at(len(ls), 0), at(len(ls), 1), at(len(ls)+1, 0), at(0, -1), at(len(ls)-1, -1), at(0, len(ls[0])+1), at(len(ls)-1, len(ls[len(ls)-1])+1))
		for _, from := range all {
			holdForward(t, p, x.s, ls, from, x.first)
			holdBackward(t, p, x.s, ls, from, x.last)
		}
		checkText(t, x.s, x.text)
	}
	p, ls := machine(t, "a"), readLines("aa/aa/aa")
	for _, x := range []struct {
		from       api.Spot
		next, last told
	}{
		{at(0, 2), yes(1, 0, 1), yes(0, 1, 1)}, {at(0, 3), yes(0, 0, 1), yes(2, 1, 1)}, {at(1, 2), yes(2, 0, 1), yes(1, 1, 1)}, {at(1, 3), yes(0, 0, 1), yes(2, 1, 1)}, {at(1, -1), yes(0, 0, 1), yes(2, 1, 1)}, {at(2, 2), yes(0, 0, 1), yes(2, 1, 1)}, {at(2, 3), yes(0, 0, 1), yes(2, 1, 1)}, {at(3, 0), yes(0, 0, 1), yes(2, 1, 1)}, {at(-1, 1), yes(0, 0, 1), yes(2, 1, 1)},
	} {
		holdForward(t, p, "a", ls, x.from, x.next)
		holdBackward(t, p, "a", ls, x.from, x.last)
	}
}

// P17.1: what a place has in Past is nothing to it.
func TestPast(t *testing.T) {
	p, ls := machine(t, "a+"), readLines("ab/baa//a")
	for _, from := range near(ls) {
		next, nextOk := search.Forward(ls, p, from)
		last, lastOk := search.Backward(ls, p, from)
		for _, past := range []int{math.MinInt, -1, 1, 2, 300, math.MaxInt} {
			from.Past = past
			holdForward(t, p, "a+", ls, from, told{next, nextOk})
			holdBackward(t, p, "a+", ls, from, told{last, lastOk})
		}
	}
}

// P17.1: lines without a sign, and none at all.
func TestEmptyLines(t *testing.T) {
	roomy := readLine("aaa")
	for _, s := range []string{"a", "a*", ".", ".*", "^", "$", "^$", "(^|$)", "(a|^)*", "[^a]"} {
		p := machine(t, s)
		for _, ls := range [][][]api.Cell{nil, {}, readLines("a/a")[:0], {nil}, {{}}, {nil, {}, nil}, {roomy[:0]}, {roomy[:0], roomy[1:1], nil}} {
			holdNone(t, p, s, ls, append(near(ls), far()...))
		}
	}
	for _, text := range []string{"/a", "a/", "/a/", "//a//a//", "a//a", "///////a", "a///////"} {
		for _, s := range []string{"a", "a*", ".", "^a", "a$", "^a$", "b", "^$"} {
			checkText(t, s, text)
		}
	}
}

// P17.1: patterns that match nothing, or nothing but the empty.
func TestNone(t *testing.T) {
	for _, s := range []string{"^", "$", "^$", "(^|$)", "(^|$)*", "a{0}", "(a{0}|^){3}", "z", "z*", "z?", "a^b", "a$b", "ba{9}", "(^z|$)*", "[z]"} {
		p := machine(t, s)
		for _, text := range []string{"ab", "a/b", "ab/ba/aab", "/ab/", "中文/a"} {
			ls := readLines(text)
			holdNone(t, p, s, ls, append(near(ls), far()...))
			checkText(t, s, text)
		}
	}
}

// P17.1: with no machine there is nothing.
func TestNoMachine(t *testing.T) {
	var zero nfa.Prog
	for _, p := range []*nfa.Prog{nil, &zero} {
		for _, ls := range [][][]api.Cell{nil, {}, {nil}, readLines("a"), readLines("ab//ba")} {
			holdNone(t, p, "no machine", ls, append(near(ls), far()...))
		}
	}
}

// P17.1: what stands in the room behind lines is not of them.
func TestRoomBehind(t *testing.T) {
	all := readLines("aabaa/abab/bbaa")
	for _, s := range []string{"a", "aa", "a*", "ab", "a$", "b", ".", "a+b"} {
		for many := range len(all) + 1 {
			for long := range 4 {
				ls := slices.Clone(all)[:many]
				var text []string
				for i, l := range ls {
					ls[i] = l[:long]
					text = append(text, cell.Text(l[:long]))
				}
				var hits []api.Hit
				if many > 0 {
					hits = newBook(s, 5).hits(strings.Join(text, "/"))
				}
				check(t, machine(t, s), s, ls, hits, append(near(ls), far()...))
			}
		}
	}
}

// P17.1: signs that may not be, and cells that no line has, are signs as others.
func TestAnyCells(t *testing.T) {
	l := []api.Cell{{R: -1, W: 7, A: -3}, {R: 'a'}, {R: 0}, {R: 0xD800, W: 1}, {R: 0xFFFD, W: 1}, {R: 'a', W: 2, A: 999}, {R: math.MaxInt32, W: -1}, {R: math.MinInt32, W: math.MaxInt}, {R: 'a', W: 1}}
	ls := [][]api.Cell{l, nil, l[:1], l[1:]}
	for s, hits := range map[string][]api.Hit{
		"a":      {{Line: 0, Off: 1, Len: 1}, {Line: 0, Off: 5, Len: 1}, {Line: 0, Off: 8, Len: 1}, {Line: 3, Off: 0, Len: 1}, {Line: 3, Off: 4, Len: 1}, {Line: 3, Off: 7, Len: 1}},
		"a.a":    nil,
		"^.$":    {{Line: 2, Off: 0, Len: 1}},
		"a[^a]+": {{Line: 0, Off: 1, Len: 4}, {Line: 0, Off: 5, Len: 3}, {Line: 3, Off: 0, Len: 4}, {Line: 3, Off: 4, Len: 3}},
		"..a$":   {{Line: 0, Off: 6, Len: 3}, {Line: 3, Off: 5, Len: 3}},
	} {
		check(t, machine(t, s), s, ls, hits, append(near(ls), far()...))
	}
}

// P17.1: again and again from each hit it tells all, in their order, and round.
func TestRound(t *testing.T) {
	for _, text := range []string{"abab/aab//bba/a", "aaaa", "a", "a/a/a", "/a", "ba//", "aab/中aa文/bb"} {
		for _, s := range []string{"a", "aa*", "ab|a", "[^b]+", "^.", ".$", ".", "a+$"} {
			p, ls, hits := machine(t, s), readLines(text), newBook(s, len(text)).hits(text)
			next, last := at(-1, 0), at(-1, 0)
			for turn := range 3 * len(hits) {
				want := told{hits[turn%len(hits)], true}
				holdForward(t, p, s, ls, next, want)
				next = spotOf(want.hit)
				want = told{hits[len(hits)-1-turn%len(hits)], true}
				holdBackward(t, p, s, ls, last, want)
				last = spotOf(want.hit)
			}
			checkText(t, s, text)
		}
	}
}
