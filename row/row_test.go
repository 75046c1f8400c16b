package row_test

import (
	"math"
	"math/rand"
	"slices"
	"testing"

	"rotulus/api"
	"rotulus/cell"
	"rotulus/pack"
	"rotulus/row"
)

// of is a cell in short.
func of(r rune, w, a int) api.Cell { return api.Cell{R: r, W: w, A: a} }

// wide are the cells of a wide sign.
func wide(r rune, a int) []api.Cell { return []api.Cell{of(r, 2, a), of(0, 0, a)} }

// gaps are n Blanks.
func gaps(n int) []api.Cell { return slices.Repeat([]api.Cell{of(' ', 1, 0)}, n) }

// letters are n alike cells.
func letters(n int) []api.Cell { return slices.Repeat([]api.Cell{of('a', 1, 0)}, n) }

// join puts lists of cells one behind the other.
func join(parts ...[]api.Cell) []api.Cell { return slices.Concat(parts...) }

// read makes a row of a text: . is a Blank, ~ a blank with the attribute 7, _ a Pad, 中 and 国 a wide sign (two cells), 界 one with the attribute 7, a capital one with the attribute 255, | at the end Wrap.
func read(s string) api.Row {
	var r api.Row
	for _, x := range s {
		switch {
		case x == '.':
			r.Cells = append(r.Cells, of(' ', 1, 0))
		case x == '~':
			r.Cells = append(r.Cells, of(' ', 1, 7))
		case x == '_':
			r.Cells = append(r.Cells, of(0, 1, 0))
		case x == '中' || x == '国':
			r.Cells = append(r.Cells, wide(x, 0)...)
		case x == '界':
			r.Cells = append(r.Cells, wide(x, 7)...)
		case x == '|':
			r.Wrap = true
		case 'A' <= x && x <= 'Z':
			r.Cells = append(r.Cells, of(x, 1, 255))
		default:
			r.Cells = append(r.Cells, of(x, 1, 0))
		}
	}
	return r
}

// same says whether a and b are the same row, without asking the program.
func same(a, b api.Row) bool { return a.Wrap == b.Wrap && slices.Equal(a.Cells, b.Cells) }

// own is a row that shares nothing with r.
func own(r api.Row) api.Row { return api.Row{Cells: slices.Clone(r.Cells), Wrap: r.Wrap} }

// thinned is the beginning of r, to be told where a test fails.
func thinned(r api.Row) api.Row { return api.Row{Cells: r.Cells[:min(len(r.Cells), 12)], Wrap: r.Wrap} }

// checkSet holds Set against what is wanted, and that what is handed in stays.
func checkSet(t *testing.T, r api.Row, col int, l []api.Cell, want api.Row, wantOk bool) {
	t.Helper()
	handed, list := own(r), slices.Clone(l)
	got, ok := row.Set(handed, col, list...)
	if ok != wantOk || !same(got, want) {
		t.Fatalf("Set(%v, %d, %v) = %v, %v, not %v, %v", thinned(r), col, l, thinned(got), ok, thinned(want), wantOk)
	}
	if !same(handed, r) || !slices.Equal(list, l) {
		t.Fatalf("Set(%v, %d, %v) changes what is handed in", thinned(r), col, l)
	}
}

// checkErase holds Erase against what is wanted, and that what is handed in stays.
func checkErase(t *testing.T, r api.Row, from, to int, want api.Row, wantOk bool) {
	t.Helper()
	handed := own(r)
	got, ok := row.Erase(handed, from, to)
	if ok != wantOk || !same(got, want) {
		t.Fatalf("Erase(%v, %d, %d) = %v, %v, not %v, %v", thinned(r), from, to, thinned(got), ok, thinned(want), wantOk)
	}
	if !same(handed, r) {
		t.Fatalf("Erase(%v, %d, %d) changes what is handed in", thinned(r), from, to)
	}
}

// checkAsked holds Used, IsBlank and First of r, at each col and beyond, against the models.
func checkAsked(t *testing.T, r api.Row) {
	t.Helper()
	handed := own(r)
	if got, want := row.Used(handed), modelUsed(r); got != want {
		t.Fatalf("Used(%v) = %d, not %d", thinned(r), got, want)
	}
	if got, want := row.IsBlank(handed), modelIsBlank(r); got != want {
		t.Fatalf("IsBlank(%v) = %v, not %v", thinned(r), got, want)
	}
	for _, col := range cols(r) {
		if got, want := row.First(handed, col), modelFirst(r, col); got != want {
			t.Fatalf("First(%v, %d) = %d, not %d", thinned(r), col, got, want)
		}
	}
	if !same(handed, r) {
		t.Fatalf("%v changes by being asked", thinned(r))
	}
}

// cols are all cols of r, those beside it, and huge ones.
func cols(r api.Row) []int {
	out := []int{math.MinInt, math.MinInt + 1, -1 << 32, -301, -300, -2, 1 << 32, math.MaxInt - 1, math.MaxInt}
	for col := -1; col <= len(r.Cells)+2; col++ {
		out = append(out, col)
	}
	return out
}

// lists are lists that may be Set, and such that may not.
func lists() [][]api.Cell {
	return append(listsThatMayNot(),
		cell.Of('x', 0), cell.Of('y', 255), cell.Of(0xFFFD, 3), cell.Of(0x10FFFF, 1),
		[]api.Cell{cell.Blank()}, cell.Of(' ', 9), []api.Cell{cell.Pad()},
		cell.Of(0x6F22, 0), cell.Of(0x6F22, 128), cell.Of(0x1F600, 255), cell.Of(0x3000, 0))
}

// listsThatMayNot are lists that may not be Set.
func listsThatMayNot() [][]api.Cell {
	x, w := cell.Of('x', 0), cell.Of(0x6F22, 5)
	return [][]api.Cell{
		nil,
		{},
		w[:1],
		w[1:],
		{{}},
		join(w[:1], w[:1]),
		join(w[1:], w[1:]),
		join(w[1:], w[:1]),
		join(w[:1], x),
		join(x, w[1:]),
		join(w[1:], x),
		{w[0], of(0, 0, 6)},
		{w[0], of(0, 0, 0)},
		{w[0], of('x', 0, 5)},
		{w[0], cell.Pad()},
		{w[0], cell.Blank()},
		{of(0x6F22, 1, 5), w[1]},
		{of('x', 2, 0), of(0, 0, 0)},
		join(x, x),
		join(x, cell.Of('y', 0)),
		gaps(2),
		{cell.Pad(), cell.Pad()},
		{cell.Pad(), cell.Blank()},
		{cell.Blank(), cell.Pad()},
		{cell.Pad(), of(0, 0, 0)},
		join(x, x, x),
		join(x, w),
		join(w, x),
		join(w, w),
		join(w, w[1:]),
		gaps(3),
		letters(300),
		letters(1000),
		{of('x', 1, 256)},
		{of('x', 1, -1)},
		{of('x', 1, math.MaxInt)},
		{of('x', 1, math.MinInt)},
		{of('x', 2, 0)},
		{of('x', 0, 0)},
		{of('x', 3, 0)},
		{of('x', -1, 0)},
		{of(0x6F22, 1, 0)},
		{of(0, 1, 1)},
		{of(0, 2, 0)},
		{of(7, 1, 0)},
		{of(27, 1, 0)},
		{of(127, 1, 0)},
		{of(0x301, 1, 0)},
		{of(0x301, 0, 0)},
		{of(-1, 1, 0)},
		{of(0xD800, 1, 0)},
		{of(0x110000, 1, 0)},
		{of(0x6F22, 2, 256), of(0, 0, 256)},
		{of(0x6F22, 2, -1), of(0, 0, -1)},
		{of(math.MinInt32, math.MinInt, math.MinInt)},
	}
}

// rowsThatMayNot are rows that may not be, alone and with others round them.
func rowsThatMayNot() []api.Row {
	lists := [][]api.Cell{
		wide('中', 0)[:1],
		wide('中', 0)[1:],
		wide('中', 9)[1:],
		{of('中', 2, 1), of(0, 0, 2)},
		{of('中', 2, 1), of(0, 0, 0)},
		{of('中', 2, 0), of('中', 2, 0)},
		{of(0, 0, 0), of('中', 2, 0)},
		join(wide('中', 0), wide('中', 0)[1:]),
		join(wide('中', 0)[:1], letters(1), wide('中', 0)[1:]),
		{of('a', 1, 256)},
		{of('a', 1, -1)},
		{of('a', 2, 0)},
		{of('a', 3, 0)},
		{of('a', 0, 0)},
		{of(7, 1, 0)},
		{of(0x301, 1, 0)},
		{of(0, 1, 1)},
		{of(-1, 1, 0)},
		{of(0x110000, 1, 0)},
		{of(math.MaxInt32, math.MaxInt, math.MaxInt)},
	}
	out := []api.Row{{Cells: letters(301)}, {Cells: gaps(301)}, {Cells: slices.Repeat(wide('中', 0), 151)}, {Cells: letters(1000)}}
	for _, l := range lists {
		out = append(out,
			api.Row{Cells: l},
			api.Row{Cells: join(letters(2), l, letters(2))},
			api.Row{Cells: join(wide('中', 5), l, wide('中', 5))},
			api.Row{Cells: join(gaps(1), l, gaps(3))},
			api.Row{Cells: join(letters(150), l, letters(140))})
	}
	for _, r := range slices.Clone(out) {
		out = append(out, api.Row{Cells: r.Cells, Wrap: true})
	}
	return out
}

// P8.1: Blank has w Blanks, or as many as the nearer end says, and no Wrap.
func TestBlank(t *testing.T) {
	for _, x := range []struct{ w, want int }{
		{0, 0}, {1, 1}, {2, 2}, {3, 3}, {80, 80}, {298, 298}, {299, 299}, {300, 300},
		{301, 300}, {302, 300}, {1000000, 300}, {1 << 32, 300}, {1<<32 + 5, 300}, {math.MaxInt - 1, 300}, {math.MaxInt, 300},
		{-1, 0}, {-2, 0}, {-300, 0}, {-1 << 32, 0}, {-1<<32 + 5, 0}, {math.MinInt + 1, 0}, {math.MinInt, 0},
	} {
		r := row.Blank(x.w)
		if !same(r, api.Row{Cells: gaps(x.want)}) {
			t.Errorf("Blank(%d) = %v", x.w, r)
		}
		if !pack.May(r) || row.Used(r) != 0 || !row.IsBlank(r) {
			t.Errorf("Blank(%d) may not be, or is not blank", x.w)
		}
	}
}

// P8.1: Set, row by row.
func TestSet(t *testing.T) {
	for _, x := range []struct {
		row  string
		col  int
		list string
		want string
		ok   bool
	}{
		// a narrow sign, at each col of a row
		{"abc", -1, "x", "abc", false},
		{"abc", 0, "x", "xbc", true},
		{"abc", 1, "x", "axc", true},
		{"abc", 2, "x", "abx", true},
		{"abc", 3, "x", "abc", false},
		{"abc", 4, "x", "abc", false},
		{"abc", math.MinInt, "x", "abc", false},
		{"abc", math.MaxInt, "x", "abc", false},
		{"abc", 1 << 32, "x", "abc", false},
		// with its own attribute, not with the row's
		{"ABC", 1, "x", "AxC", true},
		{"abc", 1, "X", "aXc", true},
		// a Blank, a blank with an attribute, a Pad
		{"abc", 0, ".", ".bc", true},
		{"abc", 2, ".", "ab.", true},
		{"abc", 2, "~", "ab~", true},
		{"abc", 1, "_", "a_c", true},
		{"abc", 2, "_", "ab_", true},
		{"abc", 3, "_", "abc", false},
		{"a_c", 1, "x", "axc", true},
		{"...", 1, "x", ".x.", true},
		// a wide sign
		{"abcd", -2, "中", "abcd", false},
		{"abcd", -1, "中", "abcd", false},
		{"abcd", 0, "中", "中cd", true},
		{"abcd", 1, "界", "a界d", true},
		{"abcd", 2, "中", "ab中", true},
		{"abcd", 3, "中", "abcd", false},
		{"abcd", 4, "中", "abcd", false},
		{"abcd", math.MaxInt, "中", "abcd", false},
		{"abcd", math.MaxInt - 1, "中", "abcd", false},
		{"abcd", math.MinInt, "中", "abcd", false},
		// one half of a wide sign is overwritten
		{"中", 0, "x", "x.", true},
		{"中", 1, "x", ".x", true},
		{"a中d", 1, "x", "ax.d", true},
		{"a中d", 2, "x", "a.xd", true},
		{"a界d", 1, "x", "ax.d", true},
		{"a界d", 2, "X", "a.Xd", true},
		{"a中d", 1, ".", "a..d", true},
		{"a中d", 2, "_", "a._d", true},
		{"a中", 2, "_", "a._", true},
		{"中中", 1, "x", ".x中", true},
		{"中中", 2, "x", "中x.", true},
		{"a中d", 0, "x", "x中d", true},
		{"a中d", 3, "x", "a中x", true},
		// by a wide sign
		{"a中d", 0, "国", "国.d", true},
		{"a中d", 2, "国", "a.国", true},
		{"a中d", 1, "国", "a国d", true},
		{"a界d", 1, "中", "a中d", true},
		{"a中d", 1, "界", "a界d", true},
		{"a界d", 0, "国", "国.d", true},
		{"中国", 1, "界", ".界.", true},
		{"界界", 1, "中", ".中.", true},
		{"中国", 0, "界", "界国", true},
		{"中国", 2, "界", "中界", true},
		{"中国中", 1, "界", ".界.中", true},
		{"中国中", 3, "界", "中.界.", true},
		{"a中", 2, "国", "a中", false},
		{"中", 1, "国", "中", false},
		{"中", 0, "国", "国", true},
		// Wrap stays as it was
		{"abc|", 0, "x", "xbc|", true},
		{"abc|", 2, "x", "abx|", true},
		{"abc|", 2, ".", "ab.|", true},
		{"abc|", 2, "_", "ab_|", true},
		{"ab_|", 2, "c", "abc|", true},
		{"ab中|", 2, "x", "abx.|", true},
		{"abcd|", 2, "中", "ab中|", true},
		{"a|", 0, ".", ".|", true},
		{"abc|", 3, "x", "abc|", false},
		{"abc|", -1, "x", "abc|", false},
		{"abc|", 2, "中", "abc|", false},
		// rows of one cell and of none
		{"a", 0, "x", "x", true},
		{"a", 1, "x", "a", false},
		{"a", 0, "中", "a", false},
		{"", 0, "x", "", false},
		{"", 0, "中", "", false},
		{"", -1, "x", "", false},
		{"", -1, "中", "", false},
		{"", -2, "中", "", false},
		{"|", 0, "x", "|", false},
		// none, or more than one
		{"abcd", 0, "", "abcd", false},
		{"abcd", 4, "", "abcd", false},
		{"", 0, "", "", false},
		{"abcd", 1, "xy", "abcd", false},
		{"abcd", 1, "..", "abcd", false},
		{"abcd", 1, "__", "abcd", false},
		{"abcd", 1, "x.", "abcd", false},
		{"abcd", 1, "_中", "abcd", false},
		{"abcd", 1, "xyz", "abcd", false},
		{"abcd", 0, "中国", "abcd", false},
		{"abcd|", 0, "xy", "abcd|", false},
	} {
		checkSet(t, read(x.row), x.col, read(x.list).Cells, read(x.want), x.ok)
	}
}

// P8.1: what may not be Set is refused at each col of each row, whether there were room for it or not.
func TestSetOfNone(t *testing.T) {
	for _, s := range []string{"", "|", "a", "中", "abc|", "a中d", "中国界中|", "...._|", "abcdefgh"} {
		r := read(s)
		for _, l := range listsThatMayNot() {
			for _, col := range cols(r) {
				checkSet(t, r, col, l, r, false)
			}
		}
	}
}

// P8.1: Erase, row by row.
func TestErase(t *testing.T) {
	for _, x := range []struct {
		row      string
		from, to int
		want     string
		ok       bool
	}{
		// nothing
		{"abc", 0, 0, "abc", true},
		{"abc", 1, 1, "abc", true},
		{"abc", 3, 3, "abc", true},
		{"abc|", 0, 0, "abc|", true},
		{"abc|", 3, 3, "abc|", true},
		{"a中d", 2, 2, "a中d", true},
		{"中", 1, 1, "中", true},
		{"中|", 2, 2, "中|", true},
		// one cell
		{"abc", 0, 1, ".bc", true},
		{"abc", 1, 2, "a.c", true},
		{"abc", 2, 3, "ab.", true},
		{"ABC", 1, 2, "A.C", true},
		{"a~c", 1, 2, "a.c", true},
		{"a_c", 1, 2, "a.c", true},
		{"a.c", 1, 2, "a.c", true},
		// more
		{"abcd", 1, 3, "a..d", true},
		{"abcd", 0, 3, "...d", true},
		{"abcd", 1, 4, "a...", true},
		{"abcd", 0, 4, "....", true},
		{"A~_d", 0, 4, "....", true},
		// halves of wide signs, at either edge and at both
		{"a中d", 1, 2, "a..d", true},
		{"a中d", 2, 3, "a..d", true},
		{"a中d", 1, 3, "a..d", true},
		{"a中d", 0, 2, "...d", true},
		{"a中d", 2, 4, "a...", true},
		{"a中d", 0, 1, ".中d", true},
		{"a中d", 3, 4, "a中.", true},
		{"a界d", 0, 2, "...d", true},
		{"a界d", 2, 4, "a...", true},
		{"中国", 1, 3, "....", true},
		{"界界", 1, 3, "....", true},
		{"中国", 0, 2, "..国", true},
		{"中国", 2, 4, "中..", true},
		{"中国", 1, 2, "..国", true},
		{"中国", 2, 3, "中..", true},
		{"中国界", 1, 5, "......", true},
		{"中国界", 1, 4, "....界", true},
		{"中国界", 2, 5, "中....", true},
		{"中国界", 2, 4, "中..界", true},
		{"中国界", 3, 4, "中..界", true},
		{"ab中cd国ef", 3, 7, "ab......ef", true},
		// Wrap goes with the row's end, and just with it
		{"abcd|", 0, 4, "....", true},
		{"abcd|", 3, 4, "abc.", true},
		{"abcd|", 2, 3, "ab.d|", true},
		{"abcd|", 0, 3, "...d|", true},
		{"abc_|", 3, 4, "abc.", true},
		{"ab中|", 3, 4, "ab..", true},
		{"ab中|", 2, 4, "ab..", true},
		{"ab中|", 2, 3, "ab..|", true},
		{"ab中|", 0, 3, "....|", true},
		{"ab..|", 2, 4, "ab..", true},
		{"ab..|", 0, 2, "....|", true},
		{"a|", 0, 1, ".", true},
		{"a|", 0, 0, "a|", true},
		{"a|", 1, 1, "a|", true},
		// none
		{"abcd|", 3, 2, "abcd|", false},
		{"abcd|", 1, 0, "abcd|", false},
		{"abcd|", 4, 3, "abcd|", false},
		{"abcd|", -1, 2, "abcd|", false},
		{"abcd|", -1, -1, "abcd|", false},
		{"abcd|", 0, -1, "abcd|", false},
		{"abcd|", -1, 4, "abcd|", false},
		{"abcd|", 0, 5, "abcd|", false},
		{"abcd|", 4, 5, "abcd|", false},
		{"abcd|", 5, 5, "abcd|", false},
		{"abcd|", 5, 4, "abcd|", false},
		{"abcd|", math.MinInt, math.MaxInt, "abcd|", false},
		{"abcd|", math.MaxInt, math.MinInt, "abcd|", false},
		{"abcd|", 0, math.MaxInt, "abcd|", false},
		{"abcd|", 0, 1<<32 + 2, "abcd|", false},
		{"abcd|", -1 << 32, 2, "abcd|", false},
		{"abcd|", math.MaxInt, math.MaxInt, "abcd|", false},
		{"abcd|", math.MinInt, math.MinInt, "abcd|", false},
		{"中国", 3, 1, "中国", false},
		// no cells
		{"", 0, 0, "", true},
		{"|", 0, 0, "|", true},
		{"", 0, 1, "", false},
		{"", -1, 0, "", false},
		{"|", 1, 1, "|", false},
	} {
		checkErase(t, read(x.row), x.from, x.to, read(x.want), x.ok)
	}
}

// P8.1: Used and IsBlank, row by row.
func TestUsedAndIsBlank(t *testing.T) {
	for _, x := range []struct {
		row   string
		used  int
		blank bool
	}{
		{"", 0, true},
		{"|", 0, false},
		{".", 0, true},
		{".|", 0, false},
		{"...", 0, true},
		{"...|", 0, false},
		{"a", 1, false},
		{"a|", 1, false},
		{"a..", 1, false},
		{"..a", 3, false},
		{".a..", 2, false},
		{"a.b.|", 3, false},
		{"~", 1, false},
		{"~..", 1, false},
		{"..~", 3, false},
		{".~.|", 2, false},
		{"_", 1, false},
		{"_.", 1, false},
		{"..._", 4, false},
		{"..._|", 4, false},
		{"中", 2, false},
		{"中..", 2, false},
		{".界.|", 3, false},
		{"..中", 4, false},
	} {
		r := read(x.row)
		if got := row.Used(r); got != x.used {
			t.Errorf("Used of %s = %d", x.row, got)
		}
		if got := row.IsBlank(r); got != x.blank {
			t.Errorf("IsBlank of %s = %v", x.row, got)
		}
	}
	wideBlank := api.Row{Cells: join(gaps(1), wide(0x3000, 0), gaps(2))}
	if row.Used(wideBlank) != 3 || row.IsBlank(wideBlank) {
		t.Error("a wide blank is not used")
	}
	for _, n := range []int{299, 300} {
		full := read("a").Cells
		for _, x := range []struct {
			list []api.Cell
			used int
		}{
			{gaps(n), 0}, {join(full, gaps(n-1)), 1}, {join(gaps(n-1), full), n}, {letters(n), n}, {join(gaps(n-1), read("_").Cells), n}, {join(gaps(n-2), full, gaps(1)), n - 1},
		} {
			r := api.Row{Cells: x.list}
			wrapped := api.Row{Cells: x.list, Wrap: true}
			if row.Used(r) != x.used || row.IsBlank(r) != (x.used == 0) || row.Used(wrapped) != x.used || row.IsBlank(wrapped) {
				t.Errorf("%d cells: Used = %d, not %d, IsBlank = %v, %v", n, row.Used(r), x.used, row.IsBlank(r), row.IsBlank(wrapped))
			}
		}
	}
}

// P8.1: First, col by col.
func TestFirst(t *testing.T) {
	for _, x := range []struct {
		row  string
		want []int // of col 0 on
	}{
		{"a", []int{0, 0, 0}},
		{"abc", []int{0, 1, 2, 2, 2}},
		{"中", []int{0, 0, 0, 0}},
		{"a中d", []int{0, 1, 1, 3, 3}},
		{"a中", []int{0, 1, 1, 1, 1}},
		{"中国", []int{0, 0, 2, 2, 2}},
		{"界界a", []int{0, 0, 2, 2, 4, 4}},
		{"_.~_", []int{0, 1, 2, 3, 3}},
		{"a中_|", []int{0, 1, 1, 3, 3}},
		{"", []int{0, 0, 0}},
		{"|", []int{0, 0, 0}},
	} {
		r := read(x.row)
		for col, want := range x.want {
			if got := row.First(r, col); got != want {
				t.Errorf("First of %s, %d = %d, not %d", x.row, col, got, want)
			}
		}
		last := x.want[len(x.want)-1]
		for _, col := range []int{300, 1 << 32, math.MaxInt - 1, math.MaxInt} {
			if got := row.First(r, col); got != last {
				t.Errorf("First of %s, %d = %d, not %d", x.row, col, got, last)
			}
		}
		for _, col := range []int{-1, -2, -300, -1<<32 + 1, math.MinInt, math.MinInt + 1} {
			if got := row.First(r, col); got != 0 {
				t.Errorf("First of %s, %d = %d", x.row, col, got)
			}
		}
	}
	for _, x := range []struct {
		list      []api.Cell
		col, want int
	}{
		{letters(300), 299, 299}, {letters(300), 300, 299}, {letters(299), 299, 298},
		{join(letters(298), wide('中', 0)), 299, 298}, {join(letters(298), wide('中', 0)), 300, 298}, {join(letters(298), wide('中', 0)), 298, 298},
		{slices.Repeat(wide('中', 4), 150), 299, 298}, {slices.Repeat(wide('中', 4), 150), 151, 150}, {slices.Repeat(wide('中', 4), 150), 150, 150},
		{join(wide('中', 4), letters(297)), 1, 0}, {join(wide('中', 4), letters(297)), 2, 2},
	} {
		if got := row.First(api.Row{Cells: x.list}, x.col); got != x.want {
			t.Errorf("First of %d cells, %d = %d, not %d", len(x.list), x.col, got, x.want)
		}
	}
}

// P8.1: a row that may not be: what was handed in, false, 0, true, whatever is asked of it.
func TestRowsThatMayNot(t *testing.T) {
	for _, r := range rowsThatMayNot() {
		if pack.May(r) {
			t.Fatalf("%v may be", thinned(r))
		}
		n := len(r.Cells)
		for _, col := range []int{-1, 0, 1, 2, n - 1, n, math.MaxInt, math.MinInt} {
			for _, l := range [][]api.Cell{cell.Of('x', 0), cell.Of('中', 0), gaps(1), {cell.Pad()}, nil, gaps(2)} {
				checkSet(t, r, col, l, r, false)
			}
			for _, to := range []int{0, 1, n - 1, n, n + 1, math.MaxInt, math.MinInt} {
				checkErase(t, r, col, to, r, false)
			}
			if got := row.First(r, col); got != 0 {
				t.Errorf("First(%v, %d) = %d", thinned(r), col, got)
			}
		}
		if row.Used(r) != 0 || !row.IsBlank(r) {
			t.Errorf("Used(%v) = %d, IsBlank = %v", thinned(r), row.Used(r), row.IsBlank(r))
		}
	}
}

// P0.1: very long lists, as a row and as what is to be Set.
func TestVeryLong(t *testing.T) {
	long := letters(1000000)
	r := api.Row{Cells: long, Wrap: true}
	checkSet(t, r, 0, cell.Of('x', 0), r, false)
	checkSet(t, read("abc|"), 0, long, read("abc|"), false)
	checkErase(t, r, 0, len(long), r, false)
	if row.Used(r) != 0 || !row.IsBlank(r) || row.First(r, 5) != 0 {
		t.Errorf("Used = %d, IsBlank = %v, First = %d", row.Used(r), row.IsBlank(r), row.First(r, 5))
	}
}

// pieces are what rows are put together of.
func pieces() [][]api.Cell {
	var out [][]api.Cell
	for _, s := range []string{"a", "B", ".", "~", "_", "中", "界"} {
		out = append(out, read(s).Cells)
	}
	return out
}

// eachRow hands on all rows of up to n cells that are put together of pieces, each with Wrap and without.
func eachRow(n int, use func(api.Row)) {
	var longer func(l []api.Cell)
	longer = func(l []api.Cell) {
		use(api.Row{Cells: l})
		use(api.Row{Cells: l, Wrap: true})
		for _, x := range pieces() {
			if len(l)+len(x) <= n {
				longer(join(l, x))
			}
		}
	}
	longer(nil)
}

// checkSets holds Set of all lists, at each col of r and beyond, against the model, and that what it answers may be.
func checkSets(t *testing.T, r api.Row, lists [][]api.Cell) {
	t.Helper()
	for _, col := range cols(r) {
		for _, l := range lists {
			want, ok := modelSet(r, col, l)
			checkSet(t, r, col, l, want, ok)
			if got, _ := row.Set(r, col, l...); !pack.May(got) || len(got.Cells) != len(r.Cells) || got.Wrap != r.Wrap {
				t.Fatalf("Set(%v, %d, %v) = %v, which may not be, or has not as many cells, or another Wrap", thinned(r), col, l, thinned(got))
			}
		}
	}
}

// checkErases holds Erase from each col of r and beyond to each other one against the model, and that what it answers may be.
func checkErases(t *testing.T, r api.Row, ends []int) {
	t.Helper()
	for _, from := range ends {
		for _, to := range ends {
			want, ok := modelErase(r, from, to)
			checkErase(t, r, from, to, want, ok)
			if got, _ := row.Erase(r, from, to); !pack.May(got) || len(got.Cells) != len(r.Cells) {
				t.Fatalf("Erase(%v, %d, %d) = %v, which may not be, or has not as many cells", thinned(r), from, to, thinned(got))
			}
		}
	}
}

// P8.1: all rows of up to four cells out of some, and what is Set in and Erased of them everywhere.
func TestAllShortRows(t *testing.T) {
	some := lists()
	eachRow(4, func(r api.Row) {
		checkSets(t, r, some)
		checkErases(t, r, cols(r))
		checkAsked(t, r)
	})
	for _, r := range []api.Row{{}, {Cells: []api.Cell{}}, {Cells: make([]api.Cell, 0, 5)}} {
		checkSets(t, r, some)
		checkErases(t, r, cols(r))
		checkAsked(t, r)
	}
}

// P8.1: all rows of five and six cells out of the wide signs and a letter, for the halves.
func TestHalves(t *testing.T) {
	some := [][]api.Cell{cell.Of('x', 0), cell.Of(0x6F22, 9), {cell.Pad()}}
	eachRow(6, func(r api.Row) {
		if len(r.Cells) < 5 || slices.ContainsFunc(r.Cells, func(c api.Cell) bool { return c.W == 1 && c.R != 'a' }) {
			return
		}
		checkSets(t, r, some)
		checkErases(t, r, cols(r))
	})
}

// thrown is a row of n cells, thrown by a die.
func thrown(die *rand.Rand, n int) api.Row {
	r := api.Row{Wrap: die.Intn(2) == 0}
	for len(r.Cells) < n {
		x := pieces()[die.Intn(7)]
		if len(r.Cells)+len(x) <= n {
			r.Cells = append(r.Cells, x...)
		}
	}
	return r
}

// P8.1: rows of many cells, up to the most that there may be, thrown by a die and changed step by step.
func TestLongRows(t *testing.T) {
	die := rand.New(rand.NewSource(8))
	for _, n := range []int{1, 2, 3, 17, 80, 298, 299, 300} {
		for range 20 {
			r := thrown(die, n)
			checkAsked(t, r)
			checkErases(t, r, []int{-1, 0, 1, die.Intn(n), n - 2, n - 1, n, n + 1})
			for _, l := range lists() {
				for _, col := range []int{-2, -1, 0, 1, die.Intn(n), n - 2, n - 1, n, n + 1, math.MaxInt} {
					want, ok := modelSet(r, col, l)
					checkSet(t, r, col, l, want, ok)
				}
			}
			changed := r
			for range 30 {
				l, col := pieces()[die.Intn(7)], die.Intn(n)
				want, ok := modelSet(changed, col, l)
				checkSet(t, changed, col, l, want, ok)
				changed, _ = row.Set(changed, col, l...)
				if die.Intn(10) == 0 {
					to := min(col+die.Intn(9), n)
					want, ok := modelErase(changed, col, to)
					checkErase(t, changed, col, to, want, ok)
					changed, _ = row.Erase(changed, col, to)
				}
			}
			checkAsked(t, changed)
		}
	}
}

// P8.1: a row of 300 cells at its edges.
func TestWidestRow(t *testing.T) {
	wides := api.Row{Cells: slices.Repeat(wide('中', 4), 150), Wrap: true}
	for _, x := range []struct {
		col  int
		list []api.Cell
		want []api.Cell
		ok   bool
	}{
		{299, cell.Of('x', 0), join(wides.Cells[:298], gaps(1), cell.Of('x', 0)), true},
		{298, cell.Of('x', 0), join(wides.Cells[:298], cell.Of('x', 0), gaps(1)), true},
		{298, cell.Of('国', 1), join(wides.Cells[:298], wide('国', 1)), true},
		{297, cell.Of('国', 1), join(wides.Cells[:296], gaps(1), wide('国', 1), gaps(1)), true},
		{299, cell.Of('国', 1), wides.Cells, false},
		{300, cell.Of('x', 0), wides.Cells, false},
		{0, cell.Of('x', 0), join(cell.Of('x', 0), gaps(1), wides.Cells[2:]), true},
		{1, cell.Of('国', 0), join(gaps(1), wide('国', 0), gaps(1), wides.Cells[4:]), true},
	} {
		checkSet(t, wides, x.col, x.list, api.Row{Cells: x.want, Wrap: true}, x.ok)
	}
	for _, x := range []struct {
		from, to int
		want     []api.Cell
		wrap     bool
	}{
		{0, 300, gaps(300), false},
		{1, 299, gaps(300), true},
		{1, 300, gaps(300), false},
		{2, 300, join(wide('中', 4), gaps(298)), false},
		{3, 297, join(wide('中', 4), gaps(296), wide('中', 4)), true},
		{299, 300, join(wides.Cells[:298], gaps(2)), false},
		{298, 299, join(wides.Cells[:298], gaps(2)), true},
		{300, 300, wides.Cells, true},
	} {
		checkErase(t, wides, x.from, x.to, api.Row{Cells: x.want, Wrap: x.wrap}, true)
	}
	checkErase(t, wides, 0, 301, wides, false)
}

// overwrite writes into a list and its spare room.
func overwrite(l []api.Cell) {
	l = l[:cap(l)]
	for i := range l {
		l[i] = of('!', 1, 99)
	}
}

// asks are calls that answer a row, those that say false too.
func asks() map[string]func(api.Row, []api.Cell) api.Row {
	set := func(col int) func(api.Row, []api.Cell) api.Row {
		return func(r api.Row, l []api.Cell) api.Row {
			out, _ := row.Set(r, col, l...)
			return out
		}
	}
	erase := func(from, to int) func(api.Row, []api.Cell) api.Row {
		return func(r api.Row, _ []api.Cell) api.Row {
			out, _ := row.Erase(r, from, to)
			return out
		}
	}
	return map[string]func(api.Row, []api.Cell) api.Row{
		"Set at 0": set(0), "Set at 1": set(1), "Set ahead of all": set(-1), "Set behind all": set(1000),
		"Erase of nothing": erase(0, 0), "Erase of one": erase(1, 2), "Erase of some": erase(0, 3), "Erase of none": erase(2, 1), "Erase beyond": erase(0, 1000),
		"Blank": func(r api.Row, _ []api.Cell) api.Row { return row.Blank(len(r.Cells)) },
	}
}

// P8.1, P0.3: what is handed in stays as it was, its spare room too; who writes into what is told, spare room too, changes nothing of it nor of another answer; and who writes into what was handed in changes no answer.
func TestToldIsNew(t *testing.T) {
	for _, s := range []string{"", "|", "a", "abc|", "中", "a中d|", "中国中", "...", "_~.|", "!", "!!!|"} {
		for _, list := range []string{"", "x", ".", "_", "界", "xy"} {
			for name, ask := range asks() {
				r := read(s)
				if len(r.Cells) > 0 && r.Cells[0].R == '!' {
					r.Cells[0].A = 256 // one that may not be
				}
				l := read(list).Cells
				room := join(r.Cells, letters(3))
				listRoom := join(l, letters(3))
				roomBefore, listBefore := slices.Clone(room), slices.Clone(listRoom)
				handed, given := api.Row{Cells: room[:len(r.Cells)], Wrap: r.Wrap}, listRoom[:len(l)]
				first, second := ask(handed, given), ask(handed, given)
				want := own(second)
				overwrite(first.Cells)
				_ = append(first.Cells, of('?', 1, 1))
				if !slices.Equal(room, roomBefore) || !slices.Equal(listRoom, listBefore) {
					t.Errorf("%s, %s of %q: what is handed in is changed: %v, %v", name, s, list, room, listRoom)
				}
				if !same(second, want) || !same(ask(handed, given), want) {
					t.Errorf("%s, %s of %q: two answers share memory: %v", name, s, list, second)
				}
				overwrite(room)
				overwrite(listRoom)
				if !same(second, want) {
					t.Errorf("%s, %s of %q: the answer changes with what was handed in: %v", name, s, list, second)
				}
			}
		}
	}
}

// P8.1: the cells that are Set may be a part of the row's own.
func TestSetOfItsOwn(t *testing.T) {
	r := read("中bc界")
	for _, x := range []struct {
		from, to, col int
		want          string
	}{
		{0, 2, 1, ".中c界"}, {0, 2, 3, "中b中."}, {4, 6, 0, "界bc界"}, {4, 6, 3, "中b界."}, {2, 3, 5, "中bc.b"}, {3, 4, 0, "c.bc界"},
	} {
		got, ok := row.Set(r, x.col, r.Cells[x.from:x.to]...)
		if !ok || !same(got, read(x.want)) || !same(r, read("中bc界")) {
			t.Errorf("Set at %d of %d..%d = %v, %v; the row is %v", x.col, x.from, x.to, got, ok, r)
		}
	}
}

// P0.4: a nil list is the same as an empty one.
func TestNilLists(t *testing.T) {
	for _, wrap := range []bool{false, true} {
		for _, r := range []api.Row{{Wrap: wrap}, {Cells: []api.Cell{}, Wrap: wrap}} {
			for _, l := range [][]api.Cell{nil, {}, cell.Of('x', 0), cell.Of('中', 0)} {
				for _, col := range []int{math.MinInt, -2, -1, 0, 1, math.MaxInt} {
					if got, ok := row.Set(r, col, l...); ok || len(got.Cells) != 0 || got.Wrap != wrap {
						t.Errorf("Set(%v, %d, %v) = %v, %v", r, col, l, got, ok)
					}
				}
			}
			if got, ok := row.Erase(r, 0, 0); !ok || len(got.Cells) != 0 || got.Wrap != wrap {
				t.Errorf("Erase(%v, 0, 0) = %v, %v", r, got, ok)
			}
			if row.Used(r) != 0 || row.IsBlank(r) == wrap || row.First(r, 3) != 0 {
				t.Errorf("%v: Used = %d, IsBlank = %v, First = %d", r, row.Used(r), row.IsBlank(r), row.First(r, 3))
			}
		}
	}
	full := read("ab|")
	for _, l := range [][]api.Cell{nil, {}} {
		checkSet(t, full, 0, l, full, false)
	}
	if got, ok := row.Set(full, 1); ok || !same(got, full) {
		t.Errorf("Set of nothing = %v, %v", got, ok)
	}
}
