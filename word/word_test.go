package word_test

import (
	"math"
	"strings"
	"testing"

	"rotulus/api"
	"rotulus/cell"
	"rotulus/word"
)

// readLine makes the cells of a line of a text, a capital letter or a tilde with the attribute 255.
func readLine(s string) []api.Cell {
	var l []api.Cell
	for _, r := range s {
		c := api.Cell{R: r, W: 1}
		switch {
		case r >= 0x1100:
			c.W = 2
		case 'A' <= r && r <= 'Z':
			c.A = 255
		case r == '~': // a blank that has an attribute
			c = api.Cell{R: ' ', W: 1, A: 255}
		}
		l = append(l, c)
	}
	return l
}

// readLines makes lines of a text, with a / between two.
func readLines(s string) [][]api.Cell {
	var ls [][]api.Cell
	for _, l := range strings.Split(s, "/") {
		ls = append(ls, readLine(l))
	}
	return ls
}

// at is a place in lines, in short.
func at(line, off int) api.Spot { return api.Spot{Line: line, Off: off} }

// short is the beginning of what lines say.
func short(ls [][]api.Cell) string {
	var out []string
	for _, l := range ls[:min(len(ls), 9)] {
		out = append(out, cell.Text(l[:min(len(l), 40)]))
	}
	return strings.Join(out, "/")
}

// near are all places of lines, and some just outside of them.
func near(ls [][]api.Cell) []api.Spot {
	var out []api.Spot
	for number := -1; number <= len(ls); number++ {
		long := 0
		if number >= 0 && number < len(ls) {
			long = len(ls[number])
		}
		for off := -1; off <= long+1; off++ {
			out = append(out, at(number, off))
		}
	}
	return out
}

// far are places that are far outside of any lines.
func far() []api.Spot {
	var out []api.Spot
	for _, x := range []int{math.MinInt, math.MinInt + 1, -1 << 32, -1 << 31, -100, 1 << 20, 1 << 31, 1 << 32, math.MaxInt - 1, math.MaxInt} {
		out = append(out, at(0, x), at(1, x), at(x, 0), at(x, 1), at(x, x), at(x, -1), at(-1, x), at(x, math.MaxInt), at(x, math.MinInt))
	}
	return out
}

// hold holds Next, Prev and End from a place against what is wanted.
func hold(t *testing.T, ls [][]api.Cell, s api.Spot, want told) {
	t.Helper()
	if got := word.Next(ls, s); got != want.next {
		t.Errorf("P18.1: Next in %q from %v is %v, not %v", short(ls), s, got, want.next)
	}
	if got := word.Prev(ls, s); got != want.prev {
		t.Errorf("P18.1: Prev in %q from %v is %v, not %v", short(ls), s, got, want.prev)
	}
	if got := word.End(ls, s); got != want.end {
		t.Errorf("P18.1: End in %q from %v is %v, not %v", short(ls), s, got, want.end)
	}
}

// check holds lines from all these places against the model.
func check(t *testing.T, ls [][]api.Cell, all []api.Spot) {
	t.Helper()
	words := runs(ls)
	for _, s := range all {
		hold(t, ls, s, wanted(ls, words, s))
	}
	if t.Failed() {
		t.FailNow()
	}
}

// P18.1: the kinds, at the edges of each.
func TestKind(t *testing.T) {
	for _, x := range []struct {
		kind  int
		signs []rune
	}{
		{0, []rune{' '}},
		{1, []rune{'A', 'B', 'M', 'Y', 'Z', 'a', 'b', 'm', 'y', 'z', '0', '1', '5', '8', '9', '_', 0x80, 0x81, 0x9F, 0xA0, 0xA7, 0xD7, 0xFF, 0x100, 0x301, 0x1100, 0x2028, 0x3000, 0x4E2D, 0xD7FF, 0xE000, 0xFFFD, 0xFFFE, 0xFFFF, 0x10000, 0x1F600, 0x10FFFF}},
		{2, []rune{0, 1, 7, 8, 9, 10, 13, 27, 0x1F, '!', '"', '#', '$', '%', '&', '\'', '(', ')', '*', '+', ',', '-', '.', '/', ':', ';', '<', '=', '>', '?', '@', '[', '\\', ']', '^', '`', '{', '|', '}', '~', 0x7E, 0x7F}},
		// Such as are no sign go by their number.
		{1, []rune{0xD800, 0xDBFF, 0xDFFF, 0x110000, math.MaxInt32}},
		{2, []rune{-1, -32, -0x80, -'a', math.MinInt32}},
	} {
		for _, r := range x.signs {
			// The width and the attribute are nothing to the kind.
			for _, c := range []api.Cell{{R: r, W: 1}, {R: r, W: 2}, {R: r}, {R: r, W: 1, A: 255}, {R: r, W: 2, A: 32}, {R: r, W: -1, A: -1}, {R: r, W: math.MaxInt, A: math.MinInt}} {
				if got := word.Kind(c); got != x.kind {
					t.Errorf("P18.1: Kind of %v is %d, not %d", c, got, x.kind)
				}
			}
		}
	}
	for r := rune(-1000); r < 0x120000; r++ {
		if got := word.Kind(api.Cell{R: r, W: 1}); got != kindOf(r) {
			t.Fatalf("P18.1: Kind of %x is %d, not %d", r, got, kindOf(r))
		}
	}
	for _, x := range []struct {
		what string
		c    api.Cell
		kind int
	}{
		{"a Blank", cell.Blank(), 0}, {"a blank with an attribute", cell.Of(' ', 255)[0], 0}, {"a Pad", cell.Pad(), 2}, {"a wide sign's first half", cell.Of(0x4E2D, 7)[0], 1}, {"its second half", cell.Of(0x4E2D, 7)[1], 2}, {"nothing", api.Cell{}, 2},
	} {
		if got := word.Kind(x.c); got != x.kind {
			t.Errorf("P18.1: Kind of %s is %d, not %d", x.what, got, x.kind)
		}
	}
}

// way is a place, and what is told from it.
type way struct{ from, next, prev, end api.Spot }

// P18.1: written out, from each place of the lines.
func TestWays(t *testing.T) {
	for _, x := range []struct {
		text string
		want []way
	}{
		// One word: from its first cell, from within it, from its last cell, from behind it.
		{"abc", []way{{at(0, 0), at(0, 3), at(0, 0), at(0, 2)}, {at(0, 1), at(0, 3), at(0, 0), at(0, 2)}, {at(0, 2), at(0, 3), at(0, 0), at(0, 3)}, {at(0, 3), at(0, 3), at(0, 0), at(0, 3)}}},
		{"a", []way{{at(0, 0), at(0, 1), at(0, 0), at(0, 1)}, {at(0, 1), at(0, 1), at(0, 0), at(0, 1)}}},
		{"--", []way{{at(0, 0), at(0, 2), at(0, 0), at(0, 1)}, {at(0, 1), at(0, 2), at(0, 0), at(0, 2)}, {at(0, 2), at(0, 2), at(0, 0), at(0, 2)}}},
		// With blanks around it.
		{"  ab  ", []way{{at(0, 0), at(0, 2), at(0, 0), at(0, 3)}, {at(0, 1), at(0, 2), at(0, 0), at(0, 3)}, {at(0, 2), at(0, 6), at(0, 0), at(0, 3)}, {at(0, 3), at(0, 6), at(0, 2), at(0, 6)}, {at(0, 4), at(0, 6), at(0, 2), at(0, 6)}, {at(0, 5), at(0, 6), at(0, 2), at(0, 6)}, {at(0, 6), at(0, 6), at(0, 2), at(0, 6)}}},
		// Several: in a row of blanks, in the first one and in the last one of all.
		{"ab   cd", []way{{at(0, 0), at(0, 5), at(0, 0), at(0, 1)}, {at(0, 1), at(0, 5), at(0, 0), at(0, 6)}, {at(0, 2), at(0, 5), at(0, 0), at(0, 6)}, {at(0, 3), at(0, 5), at(0, 0), at(0, 6)}, {at(0, 4), at(0, 5), at(0, 0), at(0, 6)}, {at(0, 5), at(0, 7), at(0, 0), at(0, 6)}, {at(0, 6), at(0, 7), at(0, 5), at(0, 7)}, {at(0, 7), at(0, 7), at(0, 5), at(0, 7)}}},
		// Of both kinds without a blank between them.
		{"ab--c", []way{{at(0, 0), at(0, 2), at(0, 0), at(0, 1)}, {at(0, 1), at(0, 2), at(0, 0), at(0, 3)}, {at(0, 2), at(0, 4), at(0, 0), at(0, 3)}, {at(0, 3), at(0, 4), at(0, 2), at(0, 4)}, {at(0, 4), at(0, 5), at(0, 2), at(0, 5)}, {at(0, 5), at(0, 5), at(0, 4), at(0, 5)}}},
		{"-a", []way{{at(0, 0), at(0, 1), at(0, 0), at(0, 1)}, {at(0, 1), at(0, 2), at(0, 0), at(0, 2)}, {at(0, 2), at(0, 2), at(0, 1), at(0, 2)}}},
		// All signs of one kind make one word.
		{"Az_09中é", []way{{at(0, 0), at(0, 7), at(0, 0), at(0, 6)}, {at(0, 5), at(0, 7), at(0, 0), at(0, 6)}, {at(0, 6), at(0, 7), at(0, 0), at(0, 7)}, {at(0, 7), at(0, 7), at(0, 0), at(0, 7)}}},
		{"@[`{:!", []way{{at(0, 0), at(0, 6), at(0, 0), at(0, 5)}, {at(0, 3), at(0, 6), at(0, 0), at(0, 5)}, {at(0, 5), at(0, 6), at(0, 0), at(0, 6)}, {at(0, 6), at(0, 6), at(0, 0), at(0, 6)}}},
		// A word ends where its line ends, whatever the next line begins with.
		{"ab/cd", []way{{at(0, 0), at(1, 0), at(0, 0), at(0, 1)}, {at(0, 1), at(1, 0), at(0, 0), at(1, 1)}, {at(0, 2), at(1, 0), at(0, 0), at(1, 1)}, {at(1, 0), at(1, 2), at(0, 0), at(1, 1)}, {at(1, 1), at(1, 2), at(1, 0), at(1, 2)}, {at(1, 2), at(1, 2), at(1, 0), at(1, 2)}}},
		{"a/b", []way{{at(0, 0), at(1, 0), at(0, 0), at(1, 0)}, {at(0, 1), at(1, 0), at(0, 0), at(1, 0)}, {at(1, 0), at(1, 1), at(0, 0), at(1, 1)}, {at(1, 1), at(1, 1), at(1, 0), at(1, 1)}}},
		{"a-/-a", []way{{at(0, 0), at(0, 1), at(0, 0), at(0, 1)}, {at(0, 1), at(1, 0), at(0, 0), at(1, 0)}, {at(0, 2), at(1, 0), at(0, 1), at(1, 0)}, {at(1, 0), at(1, 1), at(0, 1), at(1, 1)}, {at(1, 1), at(1, 2), at(1, 0), at(1, 2)}}},
		// Over lines without cells and lines of blanks alone.
		{"a//  /bc//", []way{{at(0, 0), at(3, 0), at(0, 0), at(3, 1)}, {at(0, 1), at(3, 0), at(0, 0), at(3, 1)}, {at(1, 0), at(3, 0), at(0, 0), at(3, 1)}, {at(2, 0), at(3, 0), at(0, 0), at(3, 1)}, {at(2, 2), at(3, 0), at(0, 0), at(3, 1)}, {at(3, 0), at(5, 0), at(0, 0), at(3, 1)}, {at(3, 1), at(5, 0), at(3, 0), at(5, 0)}, {at(3, 2), at(5, 0), at(3, 0), at(5, 0)}, {at(4, 0), at(5, 0), at(3, 0), at(5, 0)}, {at(5, 0), at(5, 0), at(3, 0), at(5, 0)}}},
		{"/a", []way{{at(0, 0), at(1, 0), at(0, 0), at(1, 0)}, {at(1, 0), at(1, 1), at(0, 0), at(1, 1)}, {at(1, 1), at(1, 1), at(1, 0), at(1, 1)}}},
		{"  / a", []way{{at(0, 0), at(1, 1), at(0, 0), at(1, 1)}, {at(0, 2), at(1, 1), at(0, 0), at(1, 1)}, {at(1, 0), at(1, 1), at(0, 0), at(1, 1)}, {at(1, 1), at(1, 2), at(0, 0), at(1, 2)}, {at(1, 2), at(1, 2), at(1, 1), at(1, 2)}}},
		// A blank that has an attribute is one too.
		{"a~b", []way{{at(0, 0), at(0, 2), at(0, 0), at(0, 2)}, {at(0, 1), at(0, 2), at(0, 0), at(0, 2)}, {at(0, 2), at(0, 3), at(0, 0), at(0, 3)}, {at(0, 3), at(0, 3), at(0, 2), at(0, 3)}}},
		// A wide sign is one cell of a line.
		{"中文 中/文", []way{{at(0, 0), at(0, 3), at(0, 0), at(0, 1)}, {at(0, 1), at(0, 3), at(0, 0), at(0, 3)}, {at(0, 3), at(1, 0), at(0, 0), at(1, 0)}, {at(0, 4), at(1, 0), at(0, 3), at(1, 0)}, {at(1, 1), at(1, 1), at(1, 0), at(1, 1)}}},
	} {
		ls := readLines(x.text)
		for _, y := range x.want {
			hold(t, ls, y.from, told{y.next, y.prev, y.end})
		}
		check(t, ls, append(near(ls), far()...))
	}
}

// P18.1: where there is no word.
func TestNone(t *testing.T) {
	for _, x := range []struct {
		text string
		end  api.Spot
	}{
		{"", at(0, 0)}, {" ", at(0, 1)}, {"~", at(0, 1)}, {"   ", at(0, 3)}, {"/", at(1, 0)}, {"//", at(2, 0)}, {"  /", at(1, 0)}, {"/  ", at(1, 2)}, {" /~~/ ", at(2, 1)},
	} {
		ls := readLines(x.text)
		for number, l := range ls {
			for off := range len(l) + 1 {
				hold(t, ls, at(number, off), told{x.end, at(0, 0), x.end})
			}
		}
		check(t, ls, append(near(ls), far()...))
	}
}

// P18.1: a place that is none of a line is told as it is, its Past too.
func TestOutside(t *testing.T) {
	for _, ls := range [][][]api.Cell{nil, {}, {nil}, {{}}, readLines("ab"), readLines("ab -/c/"), readLines("/a"), readLines("  /")} {
		all := append(far(), at(-1, 0), at(-1, 1), at(len(ls), 0), at(len(ls), 1), at(len(ls)+1, 0), at(-1, -1), at(len(ls), -1))
		for number, l := range ls {
			all = append(all, at(number, -1), at(number, -2), at(number, len(l)+1), at(number, len(l)+2))
		}
		for _, s := range all {
			for _, past := range []int{0, 1, -1, 5, math.MaxInt, math.MinInt} {
				s.Past = past
				hold(t, ls, s, told{s, s, s})
			}
		}
	}
}

// P18.1: the Past of a place of a line is nothing, and none is told.
func TestPast(t *testing.T) {
	for _, text := range []string{"", "ab", "ab c-/ d//-", " / "} {
		ls := readLines(text)
		words := runs(ls)
		for number, l := range ls {
			for off := range len(l) + 1 {
				want := wanted(ls, words, at(number, off))
				for _, past := range []int{1, 2, 300, -1, math.MaxInt, math.MinInt} {
					hold(t, ls, api.Spot{Line: number, Off: off, Past: past}, want)
				}
			}
		}
	}
}

// P0.1: cells that are none of a line go by their signs.
func TestNoLines(t *testing.T) {
	wide := cell.Of(0x4E2D, 7)
	ls := [][]api.Cell{{wide[0], wide[1], cell.Pad(), wide[0]}, {cell.Blank(), {R: -1, W: 9, A: -1}, {R: math.MaxInt32}, {R: 0xD800, W: -1}}, {{}, {R: ' ', W: 7, A: 256}, {}}}
	for _, y := range []way{
		{at(0, 0), at(0, 1), at(0, 0), at(0, 2)}, {at(0, 1), at(0, 3), at(0, 0), at(0, 2)}, {at(0, 2), at(0, 3), at(0, 1), at(0, 3)}, {at(0, 3), at(1, 1), at(0, 1), at(1, 1)},
		{at(1, 1), at(1, 2), at(0, 3), at(1, 3)}, {at(1, 3), at(2, 0), at(1, 2), at(2, 0)}, {at(2, 0), at(2, 2), at(1, 2), at(2, 2)}, {at(2, 2), at(2, 3), at(2, 0), at(2, 3)},
	} {
		hold(t, ls, y.from, told{y.next, y.prev, y.end})
	}
	check(t, ls, append(near(ls), far()...))
}
