package width_test

import (
	"slices"
	"strconv"
	"strings"
	"testing"

	"rotulus/width"
)

// The chapter's own words: the model is made of them, so that no number of the program's table is written twice.
const (
	narrow = "below 20, 7F to 9F, 300 to 36F, 200B to 200F, FE00 to FE0F, above 10FFFF, D800 to DFFF"
	wide   = "1100 to 115F, 2E80 to 303E, 3041 to 33FF, 3400 to 4DBF, 4E00 to 9FFF, A000 to A4CF, AC00 to D7A3, " +
		"F900 to FAFF, FE30 to FE6F, FF00 to FF60, FFE0 to FFE6, 1F300 to 1F64F, 1F900 to 1F9FF, 20000 to 3FFFD"
)

const (
	least    = -0x80000000
	greatest = 0x7FFFFFFF
)

type bounds struct {
	first, last int64
}

// number reads hexadecimal figures.
func number(t *testing.T, s string) int64 {
	t.Helper()
	n, err := strconv.ParseInt(s, 16, 64)
	if err != nil {
		t.Fatal(err)
	}
	return n
}

// ranges reads a list of the chapter.
func ranges(t *testing.T, list string) []bounds {
	t.Helper()
	var out []bounds
	for part := range strings.SplitSeq(list, ", ") {
		if s, ok := strings.CutPrefix(part, "below "); ok {
			out = append(out, bounds{least, number(t, s) - 1})
		} else if s, ok := strings.CutPrefix(part, "above "); ok {
			out = append(out, bounds{number(t, s) + 1, greatest})
		} else if lo, hi, ok := strings.Cut(part, " to "); ok {
			out = append(out, bounds{number(t, lo), number(t, hi)})
		} else {
			t.Fatalf("not a range: %q", part)
		}
	}
	return out
}

// model tells how wide a sign is by going through both lists of the chapter.
func model(t *testing.T) func(rune) int {
	zeros, twos := ranges(t, narrow), ranges(t, wide)
	in := func(list []bounds, r rune) bool {
		return slices.ContainsFunc(list, func(b bounds) bool { return b.first <= int64(r) && int64(r) <= b.last })
	}
	return func(r rune) int {
		switch {
		case in(zeros, r):
			return 0
		case in(twos, r):
			return 2
		}
		return 1
	}
}

// P2.1: ordinary signs.
func TestOrdinarySigns(t *testing.T) {
	for _, x := range []struct {
		r    rune
		want int
	}{
		{' ', 1}, {'a', 1}, {'Z', 1}, {'0', 1}, {'~', 1},
		{0xE9, 1}, {0x416, 1}, {0x5D0, 1}, {0xE01, 1}, {0x20AC, 1}, {0x2500, 1}, {0xFFFD, 1}, {0x1D11E, 1}, {0xE0001, 1},
		{0, 0}, {'\t', 0}, {'\n', 0}, {'\r', 0}, {0x1B, 0}, {0x85, 0}, {0x301, 0}, {0x200D, 0}, {0xFE0F, 0},
		{0x1112, 2}, {0x3042, 2}, {0x4E2D, 2}, {0xA015, 2}, {0xD55C, 2}, {0xFF21, 2}, {0xFFE5, 2}, {0x1F600, 2}, {0x1F914, 2}, {0x2F81A, 2},
	} {
		if got := width.Of(x.r); got != x.want {
			t.Errorf("Of(%x) = %d, not %d", x.r, got, x.want)
		}
	}
}

// P2.1: both ends of every range and the signs next to them, each with its width written out.
func TestEnds(t *testing.T) {
	for _, x := range []struct {
		first, last         rune
		ahead, want, behind int
	}{
		{0x7F, 0x9F, 1, 0, 1},
		{0x300, 0x36F, 1, 0, 1},
		{0x200B, 0x200F, 1, 0, 1},
		{0xFE00, 0xFE0F, 1, 0, 1},
		{0xD800, 0xDFFF, 1, 0, 1},
		{0x1100, 0x115F, 1, 2, 1},
		{0x2E80, 0x303E, 1, 2, 1},
		{0x3041, 0x33FF, 1, 2, 2},
		{0x3400, 0x4DBF, 2, 2, 1},
		{0x4E00, 0x9FFF, 1, 2, 2},
		{0xA000, 0xA4CF, 2, 2, 1},
		{0xAC00, 0xD7A3, 1, 2, 1},
		{0xF900, 0xFAFF, 1, 2, 1},
		{0xFE30, 0xFE6F, 1, 2, 1},
		{0xFF00, 0xFF60, 1, 2, 1},
		{0xFFE0, 0xFFE6, 1, 2, 1},
		{0x1F300, 0x1F64F, 1, 2, 1},
		{0x1F900, 0x1F9FF, 1, 2, 1},
		{0x20000, 0x3FFFD, 1, 2, 1},
	} {
		got := []int{width.Of(x.first - 1), width.Of(x.first), width.Of(x.last), width.Of(x.last + 1)}
		if want := []int{x.ahead, x.want, x.want, x.behind}; !slices.Equal(got, want) {
			t.Errorf("%x to %x: %d, not %d", x.first, x.last, got, want)
		}
	}
	for _, x := range []struct {
		r    rune
		want int
	}{
		{0x1F, 0}, {0x20, 1}, {0x10FFFF, 1}, {0x110000, 0},
	} {
		if got := width.Of(x.r); got != x.want {
			t.Errorf("Of(%x) = %d, not %d", x.r, got, x.want)
		}
	}
}

// P2.1: every sign that there is, against the chapter's lists.
func TestEverySign(t *testing.T) {
	want := model(t)
	for r := rune(0); r <= 0x10FFFF; r++ {
		if got := width.Of(r); got != want(r) {
			t.Fatalf("Of(%x) = %d, not %d", r, got, want(r))
		}
	}
}

// P2.1, P0.1: signs that may not be: below 0, halves of pairs, above 10FFFF.
func TestWrongSigns(t *testing.T) {
	for _, r := range []rune{
		-1, -0x20, -0x7F, -0x4E2D, -0xFFFD, -0x110000, least + 1, least,
		0xD800, 0xDBFF, 0xDC00, 0xDFFF,
		0x110000, 0x110041, 0x1FFFFF, 0x200041, 0x204E2D, 0x10004E2D, greatest - 1, greatest,
	} {
		if got := width.Of(r); got != 0 {
			t.Errorf("Of(%x) = %d", r, got)
		}
	}
	const step = 65521 // a prime, so that the last figures differ
	for r := int64(least); r < 0; r += step {
		if got := width.Of(rune(r)); got != 0 {
			t.Fatalf("Of(%x) = %d", r, got)
		}
	}
	for r := int64(0x110000); r <= greatest; r += step {
		if got := width.Of(rune(r)); got != 0 {
			t.Fatalf("Of(%x) = %d", r, got)
		}
	}
}

// P2.1: Text is the sum, in whatever order the signs stand.
func TestText(t *testing.T) {
	for _, x := range []struct {
		name string
		text []rune
		want int
	}{
		{"ASCII", []rune("rotulus"), 7},
		{"one sign", []rune{'a'}, 1},
		{"one wide sign", []rune{0x4E2D}, 2},
		{"one of no width", []rune{0x301}, 0},
		{"wide ones", []rune("\u6f22\u5b57"), 4},
		{"an accent behind its sign", []rune("e\u0301t\u0065\u0301"), 3},
		{"joined signs", []rune("\U0001f468\u200d\U0001f469"), 4},
		{"a sign with its variant", []rune("\u2764\ufe0f"), 1},
		{"controls", []rune("\x1b[1m\r\n\t"), 3},
		{"of each kind", []rune{'a', 0x4E2D, 0x301, 7, 0x1F600}, 5},
		{"the same, turned", []rune{0x1F600, 7, 0x301, 0x4E2D, 'a'}, 5},
		{"the same sign again", []rune{0xFF21, 'a', 0xFF21, 'a', 0xFF21}, 8},
		{"wrong signs alone", []rune{-1, 0xD800, 0xDFFF, 0x110000, least, greatest}, 0},
		{"wrong signs between", []rune{'a', -1, 0x4E2D, 0xD83D, 'b', 0x110000, 0xFFFD}, 5},
	} {
		if got := width.Text(x.text); got != x.want {
			t.Errorf("%s: Text(%x) = %d, not %d", x.name, x.text, got, x.want)
		}
	}
}

// P2.1: a long list, with every sign in it.
func TestLongText(t *testing.T) {
	one := model(t)
	var all []rune
	want := 0
	for r := rune(-100); r <= 0x110100; r++ {
		all = append(all, r)
		want += one(r)
	}
	if got := width.Text(all); got != want {
		t.Errorf("Text of every sign = %d, not %d", got, want)
	}
	if got := width.Text(slices.Repeat([]rune{0x4E2D}, 1000000)); got != 2000000 {
		t.Errorf("Text of a million wide signs = %d", got)
	}
}

// P2.1, P0.4: of an empty list the sum is 0, whatever its spare room holds.
func TestEmptyText(t *testing.T) {
	for _, rs := range [][]rune{nil, {}, []rune("\u6f22\u5b57")[:0]} {
		if got := width.Text(rs); got != 0 {
			t.Errorf("Text of nothing = %d", got)
		}
	}
}

// P0.3: a list that is handed in stays as it was, its spare room too, and is not kept. P0.5: the same again answers the same.
func TestListStays(t *testing.T) {
	rs := []rune{'a', 0x4E2D, -1, 0xD800, 'b', 0x1F600}
	before := slices.Clone(rs)
	if got := width.Text(rs[:4]); got != 3 {
		t.Errorf("Text = %d, not 3", got)
	}
	if !slices.Equal(rs, before) {
		t.Errorf("Text changed its list: %x", rs)
	}
	clear(rs)
	if got := width.Text(before[:4]); got != 3 {
		t.Errorf("Text once more = %d, not 3", got)
	}
}
