package cell_test

import (
	"math"
	"slices"
	"strings"
	"testing"
	"unicode/utf8"

	"rotulus/api"
	"rotulus/cell"
	"rotulus/utf"
	"rotulus/width"
)

const (
	least    = -0x80000000
	greatest = 0x7FFFFFFF
)

// of is a cell in short.
func of(r rune, w, a int) api.Cell { return api.Cell{R: r, W: w, A: a} }

// join puts lists of cells one behind the other.
func join(parts ...[]api.Cell) []api.Cell { return slices.Concat(parts...) }

// P3.1: a Blank and a Pad, number by number.
func TestBlankAndPad(t *testing.T) {
	if got := cell.Blank(); got != of(0x20, 1, 0) {
		t.Errorf("Blank() = %v", got)
	}
	if got := cell.Pad(); got != of(0, 1, 0) {
		t.Errorf("Pad() = %v", got)
	}
}

// P3.1: just a Blank is a Blank and just a Pad is a Pad: one number off is neither.
func TestIsBlankAndIsPad(t *testing.T) {
	for _, x := range []struct {
		c          api.Cell
		blank, pad bool
	}{
		{of(0x20, 1, 0), true, false},
		{of(0, 1, 0), false, true},
		{of(0x20, 1, 1), false, false},
		{of(0x20, 1, 255), false, false},
		{of(0x20, 1, -1), false, false},
		{of(0x20, 1, 256), false, false},
		{of(0x20, 0, 0), false, false},
		{of(0x20, 2, 0), false, false},
		{of(0x20, -1, 0), false, false},
		{of(0x1F, 1, 0), false, false},
		{of(0x21, 1, 0), false, false},
		{of(0xA0, 1, 0), false, false},
		{of(0x3000, 2, 0), false, false},
		{of(0, 1, 1), false, false},
		{of(0, 1, 255), false, false},
		{of(0, 1, -1), false, false},
		{of(0, 1, 256), false, false},
		{of(0, 0, 0), false, false},
		{of(0, 2, 0), false, false},
		{of(0, -1, 0), false, false},
		{of(1, 1, 0), false, false},
		{of(-1, 1, 0), false, false},
		{of('a', 1, 0), false, false},
	} {
		if got := cell.IsBlank(x.c); got != x.blank {
			t.Errorf("IsBlank(%v) = %v", x.c, got)
		}
		if got := cell.IsPad(x.c); got != x.pad {
			t.Errorf("IsPad(%v) = %v", x.c, got)
		}
	}
}

// P3.1: what may be a cell, and what of it may stand in a line.
func TestMayAndLine(t *testing.T) {
	for _, x := range []struct {
		c         api.Cell
		may, line bool
	}{
		{of(' ', 1, 0), true, true},
		{of(' ', 1, 7), true, true},
		{of('a', 1, 0), true, true},
		{of('~', 1, 1), true, true},
		{of(0xFFFD, 1, 0), true, true},
		{of(0x10FFFF, 1, 9), true, true},
		{of(0x4E2D, 2, 0), true, true},
		{of(0x1F600, 2, 77), true, true},
		// the second half and the Pad
		{of(0, 0, 0), true, false},
		{of(0, 0, 1), true, false},
		{of(0, 1, 0), true, false},
		{of(0, 1, 1), false, false},
		{of(0, 1, 255), false, false},
		{of(0, 2, 0), false, false},
		// the ends of the attribute, of each kind of cell
		{of('a', 1, 255), true, true},
		{of('a', 1, 256), false, false},
		{of('a', 1, -1), false, false},
		{of(0x4E2D, 2, 255), true, true},
		{of(0x4E2D, 2, 256), false, false},
		{of(0x4E2D, 2, -1), false, false},
		{of(0, 0, 255), true, false},
		{of(0, 0, 256), false, false},
		{of(0, 0, -1), false, false},
		{of(' ', 1, 254), true, true},
		{of(' ', 1, math.MaxInt), false, false},
		{of(' ', 1, math.MinInt), false, false},
		{of(' ', 1, 1<<32), false, false},
		// another width than the sign's
		{of('a', 2, 0), false, false},
		{of('a', 0, 0), false, false},
		{of('a', 3, 0), false, false},
		{of('a', -1, 0), false, false},
		{of(0x4E2D, 1, 0), false, false},
		{of(0x4E2D, 0, 0), false, false},
		{of(0x4E2D, 3, 0), false, false},
		{of(0, 3, 0), false, false},
		{of(0, -1, 0), false, false},
		{of('a', math.MaxInt, 0), false, false},
		{of('a', math.MinInt, 0), false, false},
		{of('a', 1<<32+1, 0), false, false},
		// signs of no width
		{of(7, 1, 0), false, false},
		{of(7, 0, 0), false, false},
		{of(0x301, 1, 0), false, false},
		{of(0x301, 0, 0), false, false},
		{of(0x301, 2, 0), false, false},
		{of(0x7F, 1, 0), false, false},
		// signs that may not be
		{of(-1, 1, 0), false, false},
		{of(-1, 0, 0), false, false},
		{of(least, 1, 0), false, false},
		{of(0xD800, 1, 0), false, false},
		{of(0xDFFF, 2, 0), false, false},
		{of(0x110000, 1, 0), false, false},
		{of(greatest, 2, 0), false, false},
	} {
		if got := cell.May(x.c); got != x.may {
			t.Errorf("May(%v) = %v", x.c, got)
		}
		if got := cell.Line([]api.Cell{x.c}); got != x.line {
			t.Errorf("Line([%v]) = %v", x.c, got)
		}
	}
}

// mayModel tells what may be by making all that may.
func mayModel(c api.Cell) bool {
	if c == cell.Pad() || c == of(0, 0, c.A) && 0 <= c.A && c.A <= 255 {
		return true
	}
	l := cell.Of(c.R, c.A)
	return len(l) > 0 && l[0] == c
}

// P3.1: all cells of some signs, widths and attributes.
func TestMayOfAll(t *testing.T) {
	for _, r := range []rune{least, -1, 0, 1, 0x1F, 0x20, 'a', 0x7E, 0x7F, 0x9F, 0xA0, 0x301, 0x10FF, 0x1100, 0x115F, 0x1160, 0x4E2D, 0xD800, 0xFFFD, 0x3FFFD, 0x3FFFE, 0x10FFFF, 0x110000, greatest} {
		for w := -2; w <= 4; w++ {
			for a := -300; a <= 600; a++ {
				c := of(r, w, a)
				want := mayModel(c)
				if got := cell.May(c); got != want {
					t.Fatalf("May(%v) = %v", c, got)
				}
				if got := cell.Line([]api.Cell{c}); got != (want && w > 0 && r != 0) {
					t.Fatalf("Line([%v]) = %v", c, got)
				}
			}
		}
	}
}

// P3.1: the cells of a sign.
func TestOf(t *testing.T) {
	for _, x := range []struct {
		r    rune
		a    int
		want []api.Cell
	}{
		{'a', 0, []api.Cell{{R: 'a', W: 1, A: 0}}},
		{'a', 1, []api.Cell{{R: 'a', W: 1, A: 1}}},
		{'a', 255, []api.Cell{{R: 'a', W: 1, A: 255}}},
		{' ', 0, []api.Cell{cell.Blank()}},
		{' ', 31, []api.Cell{{R: ' ', W: 1, A: 31}}},
		{0xFFFD, 4, []api.Cell{{R: 0xFFFD, W: 1, A: 4}}},
		{0x10FFFF, 2, []api.Cell{{R: 0x10FFFF, W: 1, A: 2}}},
		{0x4E2D, 0, []api.Cell{{R: 0x4E2D, W: 2, A: 0}, {R: 0, W: 0, A: 0}}},
		{0x4E2D, 9, []api.Cell{{R: 0x4E2D, W: 2, A: 9}, {R: 0, W: 0, A: 9}}},
		{0x1F600, 255, []api.Cell{{R: 0x1F600, W: 2, A: 255}, {R: 0, W: 0, A: 255}}},
		// wrong attributes
		{'a', -1, nil}, {'a', 256, nil}, {'a', math.MaxInt, nil}, {'a', math.MinInt, nil}, {'a', 1 << 32, nil},
		{0x4E2D, -1, nil}, {0x4E2D, 256, nil}, {0x4E2D, math.MaxInt, nil}, {0x4E2D, math.MinInt, nil},
		// signs of no width, and such that may not be
		{0, 0, nil}, {7, 0, nil}, {'\n', 3, nil}, {0x7F, 0, nil}, {0x301, 0, nil}, {0x200D, 5, nil},
		{-1, 0, nil}, {least, 0, nil}, {0xD800, 0, nil}, {0xDFFF, 0, nil}, {0x110000, 0, nil}, {greatest, 0, nil},
	} {
		if got := cell.Of(x.r, x.a); !slices.Equal(got, x.want) {
			t.Errorf("Of(%x, %d) = %v, not %v", x.r, x.a, got, x.want)
		}
	}
}

// P3.1: of every sign there are as many cells as it is wide; they may be, and the first is one of a line.
func TestOfEverySign(t *testing.T) {
	for r := rune(-100); r <= 0x110100; r++ {
		a := int(r) & 0xFF
		l := cell.Of(r, a)
		if len(l) != width.Of(r) {
			t.Fatalf("Of(%x, %d) = %v", r, a, l)
		}
		if len(l) == 0 {
			continue
		}
		if l[0] != of(r, len(l), a) || !cell.May(l[0]) || !cell.Line(l[:1]) {
			t.Fatalf("Of(%x, %d) = %v", r, a, l)
		}
		if len(l) == 2 && (l[1] != of(0, 0, a) || !cell.May(l[1]) || cell.Line(l)) {
			t.Fatalf("Of(%x, %d) = %v", r, a, l)
		}
	}
}

// P3.1: the cells of a line: one that is wrong makes it none, wherever it stands.
func TestLine(t *testing.T) {
	good := []api.Cell{of('a', 1, 0), of(0x4E2D, 2, 8), cell.Blank(), of(0x4E2D, 2, 255), of(' ', 1, 3)}
	if !cell.Line(good) {
		t.Errorf("Line(%v) = false", good)
	}
	for _, bad := range []api.Cell{cell.Pad(), {}, of(0, 0, 8), of(0, 1, 8), of('a', 2, 0), of('a', 1, 256), of(7, 1, 0), of('a', 3, 0), of('a', 0, 0), of(-1, 1, 0)} {
		for i := 0; i <= len(good); i++ {
			if l := slices.Insert(slices.Clone(good), i, bad); cell.Line(l) {
				t.Errorf("Line(%v) = true", l)
			}
		}
	}
	if cell.Line(cell.Of(0x4E2D, 0)) {
		t.Error("Line of a wide sign with its second half = true")
	}
	for _, l := range [][]api.Cell{nil, {}, good[:0]} {
		if !cell.Line(l) {
			t.Error("Line of nothing = false")
		}
	}
	long := slices.Repeat(good, 100000)
	if !cell.Line(long) || cell.Line(append(long, cell.Pad())) {
		t.Error("Line of a long list")
	}
}

// P3.1: just the Blanks at the end go.
func TestTrim(t *testing.T) {
	b, p := cell.Blank(), cell.Pad()
	letter, wide := cell.Of('a', 0), cell.Of(0x4E2D, 5)
	for _, x := range []struct {
		name string
		list []api.Cell
		want int // how many stay
	}{
		{"nil", nil, 0},
		{"nothing", []api.Cell{}, 0},
		{"a Blank", []api.Cell{b}, 0},
		{"nothing but Blanks", slices.Repeat([]api.Cell{b}, 300), 0},
		{"no Blank", letter, 1},
		{"a letter and a Blank", join(letter, []api.Cell{b}), 1},
		{"Blanks all round", join([]api.Cell{b, b}, letter, []api.Cell{b, b, b}), 3},
		{"a Blank between", join(letter, []api.Cell{b}, letter), 3},
		{"a Blank ahead", join([]api.Cell{b}, letter), 2},
		{"a wide sign", join(wide, []api.Cell{b, b}), 2},
		{"a Pad", []api.Cell{p}, 1},
		{"a Pad ahead of a Blank", []api.Cell{p, b}, 1},
		{"a Pad behind a Blank", []api.Cell{b, p}, 2},
		{"a blank with an attribute", []api.Cell{b, of(' ', 1, 1), b}, 2},
		{"a blank that is too wide", []api.Cell{b, of(' ', 2, 0), b}, 2},
		{"an empty second half", []api.Cell{b, {}, b}, 2},
		{"a cell that may not be", []api.Cell{of(-1, 9, -9), b}, 1},
		{"a wide blank", join(cell.Of(0x3000, 0), []api.Cell{b}), 2},
		{"a long list", join(slices.Repeat([]api.Cell{b, letter[0]}, 100000), slices.Repeat([]api.Cell{b}, 100000)), 200000},
	} {
		if got := cell.Trim(x.list); !slices.Equal(got, x.list[:x.want]) {
			t.Errorf("%s: Trim left %d, not %d", x.name, len(got), x.want)
		}
	}
}

// P3.1: the signs of a list as UTF-8.
func TestText(t *testing.T) {
	b, p := cell.Blank(), cell.Pad()
	for _, x := range []struct {
		name string
		list []api.Cell
		want string
	}{
		{"nil", nil, ""},
		{"nothing", []api.Cell{}, ""},
		{"a letter", cell.Of('a', 3), "a"},
		{"signs of 1, 2, 3 and 4 bytes", join(cell.Of('a', 0), cell.Of(0xE9, 0), cell.Of(0x20AC, 0), cell.Of(0x1D11E, 0)), "a\xc3\xa9\xe2\x82\xac\xf0\x9d\x84\x9e"},
		{"wide signs with their halves", join(cell.Of(0x6F22, 0), cell.Of(0x1F600, 1)), "\xe6\xbc\xa2\xf0\x9f\x98\x80"},
		{"wide signs without", []api.Cell{of(0x6F22, 2, 0), of(0x5B57, 2, 0)}, "\u6f22\u5b57"},
		{"Blanks all round", join([]api.Cell{b}, cell.Of('a', 0), []api.Cell{b, b}), " a  "},
		{"nothing but Blanks", []api.Cell{b, b, b}, "   "},
		{"blanks with attributes", []api.Cell{of(' ', 1, 1), of(' ', 1, 255)}, "  "},
		{"Pads", []api.Cell{p, p}, ""},
		{"a Pad between", join(cell.Of('a', 0), []api.Cell{p}, cell.Of(0x4E2D, 0)), "a\u4e2d"},
		{"second halves alone", []api.Cell{{}, of(0, 0, 5)}, ""},
		{"the last sign", cell.Of(0x10FFFF, 0), "\xf4\x8f\xbf\xbf"},
		// cells that may not be: the width alone says whether their sign is told
		{"a sign in a second half", []api.Cell{of('a', 0, 0), of('b', 1, 0)}, "b"},
		{"wrong widths", []api.Cell{of('a', 3, 0), of('b', -1, 0), of('c', math.MaxInt, 0), of('d', math.MinInt, 0), of('e', 1<<32+1, 0)}, ""},
		{"the other width", []api.Cell{of('a', 2, 0), of(0x4E2D, 1, 0)}, "a\u4e2d"},
		{"wrong attributes", []api.Cell{of('a', 1, -1), of('b', 1, 256)}, "ab"},
		{"signs of no width", []api.Cell{of(7, 1, 0), of(0x301, 1, 0)}, "\a\u0301"},
		{"0 that is no Pad", []api.Cell{of(0, 1, 1), of(0, 2, 0)}, "\x00\x00"},
		{"signs that may not be", []api.Cell{of(-1, 1, 0), of(0xD800, 1, 0), of(0xDFFF, 2, 0), of(0x110000, 1, 0), of(least, 2, 0), of(greatest, 1, 0)}, "\ufffd\ufffd\ufffd\ufffd\ufffd\ufffd"},
	} {
		if got := cell.Text(x.list); got != x.want {
			t.Errorf("%s: Text = %q, not %q", x.name, got, x.want)
		}
	}
}

// P3.1: of every sign its UTF-8, once, however many cells it has.
func TestTextOfEverySign(t *testing.T) {
	var list []api.Cell
	var signs []rune
	for r := rune(0); r <= utf8.MaxRune; r++ {
		if l := cell.Of(r, int(r)%256); l != nil {
			list = append(list, l...)
			signs = append(signs, r)
		}
	}
	got := cell.Text(list)
	if got != utf.Write(signs) || !slices.Equal(utf.All(got), signs) {
		t.Error("Text of every sign")
	}
	if got := cell.Text(slices.Repeat(cell.Of('a', 0), 1000000)); got != strings.Repeat("a", 1000000) {
		t.Error("Text of a long list")
	}
}

// P0.3: what is handed in stays as it was, its spare room too. P0.5: the same again answers the same.
func TestListStays(t *testing.T) {
	room := join(cell.Of('a', 1), cell.Of(0x4E2D, 2), []api.Cell{cell.Blank(), cell.Pad(), cell.Blank(), cell.Blank()}, cell.Of('z', 3))
	before := slices.Clone(room)
	list := room[:7]
	for range 2 {
		if got := cell.Trim(list); !slices.Equal(got, before[:5]) {
			t.Errorf("Trim = %v", got)
		}
		if got := cell.Text(list); got != "a\u4e2d   " {
			t.Errorf("Text = %q", got)
		}
		if cell.Line(list) {
			t.Error("Line = true")
		}
		if !slices.Equal(room, before) {
			t.Fatalf("the list is changed: %v", room)
		}
	}
}

// fill overwrites a list with its spare room.
func fill(l []api.Cell) {
	l = l[:cap(l)]
	for i := range l {
		l[i] = of('!', 1, 99)
	}
}

// P3.1, P0.3: who writes into what Trim told, spare room too, changes nothing of what was handed in or told elsewhere.
func TestTrimIsACopy(t *testing.T) {
	ends := []api.Cell{cell.Blank(), cell.Blank()}
	for _, list := range [][]api.Cell{
		join(cell.Of('a', 1), cell.Of(0x4E2D, 2)),
		join(cell.Of('a', 1), cell.Of(0x4E2D, 2), ends),
		join(cell.Of('a', 1), ends)[:1],
		ends,
		make([]api.Cell, 0, 5),
	} {
		room := list[:cap(list)]
		before := slices.Clone(room)
		first, second := cell.Trim(list), cell.Trim(list)
		want := slices.Clone(second)
		fill(first)
		if !slices.Equal(room, before) {
			t.Errorf("the list is changed: %v, it was %v", room, before)
		}
		if !slices.Equal(second, want) {
			t.Errorf("the other answer is changed: %v, it was %v", second, want)
		}
		_ = append(first, of('?', 1, 1))
		clear(list)
		if !slices.Equal(second, want) {
			t.Errorf("the answer changes with its list: %v, it was %v", second, want)
		}
	}
}

// P0.3: who writes into what Of told, spare room too, changes nothing that Of tells elsewhere.
func TestOfIsNew(t *testing.T) {
	for _, r := range []rune{' ', 'a', 0x4E2D} {
		first, second := cell.Of(r, 7), cell.Of(r, 7)
		want := slices.Clone(second)
		fill(first)
		if third := cell.Of(r, 7); !slices.Equal(second, want) || !slices.Equal(third, want) {
			t.Errorf("Of(%x, 7) = %v, then %v, not %v", r, second, third, want)
		}
	}
}
