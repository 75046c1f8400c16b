package screen_test

import (
	"math"
	"slices"
	"strings"
	"testing"

	"rotulus/api"
	"rotulus/cell"
	"rotulus/pack"
	"rotulus/screen"
)

// of is a cell in short.
func of(r rune, w, a int) api.Cell { return api.Cell{R: r, W: w, A: a} }

// wide are the cells of a wide sign.
func wide(r rune, a int) []api.Cell { return []api.Cell{of(r, 2, a), of(0, 0, a)} }

// gaps are n Blanks.
func gaps(n int) []api.Cell { return slices.Repeat([]api.Cell{of(' ', 1, 0)}, n) }

// letters are n alike cells.
func letters(n int) []api.Cell { return slices.Repeat([]api.Cell{of('a', 1, 0)}, n) }

// join puts lists of cells one behind the other.
func join(parts ...[]api.Cell) []api.Cell { return slices.Concat(parts...) }

// read makes a row of a text: . is a Blank, ~ a blank with the attribute 7, _ a Pad, 中 and 国 a wide sign (two cells), 界 one with the attribute 7, a capital one with the attribute 255, | at the end Wrap.
func read(s string) api.Row {
	var r api.Row
	for _, x := range s {
		switch {
		case x == '.':
			r.Cells = append(r.Cells, of(' ', 1, 0))
		case x == '~':
			r.Cells = append(r.Cells, of(' ', 1, 7))
		case x == '_':
			r.Cells = append(r.Cells, of(0, 1, 0))
		case x == '中' || x == '国':
			r.Cells = append(r.Cells, wide(x, 0)...)
		case x == '界':
			r.Cells = append(r.Cells, wide(x, 7)...)
		case x == '|':
			r.Wrap = true
		case 'A' <= x && x <= 'Z':
			r.Cells = append(r.Cells, of(x, 1, 255))
		default:
			r.Cells = append(r.Cells, of(x, 1, 0))
		}
	}
	return r
}

// readAll makes rows of a text, with a / between two; of an empty text none.
func readAll(s string) []api.Row {
	var out []api.Row
	if s == "" {
		return nil
	}
	for _, x := range strings.Split(s, "/") {
		out = append(out, read(x))
	}
	return out
}

// at is a place in short.
func at(row, col int) api.Pos { return api.Pos{Row: row, Col: col} }

// prints, ctrl and csi are events in short.
func prints(r rune) api.Event { return api.Event{Kind: api.EPrint, R: r} }
func ctrl(r rune) api.Event   { return api.Event{Kind: api.ECtrl, R: r} }
func csi(r rune, args ...int) api.Event {
	return api.Event{Kind: api.ECsi, R: r, Args: args}
}

// same says whether a and b are the same row, without asking the program.
func same(a, b api.Row) bool { return a.Wrap == b.Wrap && slices.Equal(a.Cells, b.Cells) }

// own are rows that share nothing with l.
func own(l []api.Row) []api.Row {
	var out []api.Row
	for _, r := range l {
		out = append(out, api.Row{Cells: slices.Clone(r.Cells), Wrap: r.Wrap})
	}
	return out
}

// thinned are rows of which no more is told than their beginnings.
func thinned(l []api.Row) []api.Row {
	out := slices.Clone(l[:min(len(l), 6)])
	for i, r := range out {
		out[i].Cells = r.Cells[:min(len(r.Cells), 12)]
	}
	return out
}

// checkRows holds rows that were told against the ones that are wanted, and that they may be and are w wide.
func checkRows(t *testing.T, name string, got, want []api.Row, w int) {
	t.Helper()
	if !slices.EqualFunc(got, want, same) {
		t.Fatalf("%s: the rows are %v, not %v", name, thinned(got), thinned(want))
	}
	for _, r := range got {
		if !pack.May(r) || len(r.Cells) != w {
			t.Fatalf("%s: a row that may not be, or has not %d cells: %v", name, w, r)
		}
	}
}

// check holds all that s tells against what is wanted.
func check(t *testing.T, name string, s *screen.Screen, rows []api.Row, cursor api.Pos, attr, w, h int) {
	t.Helper()
	if gotW, gotH := s.Size(); gotW != w || gotH != h {
		t.Fatalf("%s: the size is %d, %d, not %d, %d", name, gotW, gotH, w, h)
	}
	if got := s.Cursor(); got != cursor {
		t.Fatalf("%s: the cursor is at %v, not at %v", name, got, cursor)
	}
	if got := s.Attr(); got != attr {
		t.Fatalf("%s: the attribute is %d, not %d", name, got, attr)
	}
	checkRows(t, name, s.Rows(), rows, w)
}

// checkModel holds all that s tells against m.
func checkModel(t *testing.T, name string, s *screen.Screen, m *model) {
	t.Helper()
	check(t, name, s, m.seen(), m.cursor(), m.attribute, m.w, m.h)
}

// checkDo does e with s and with m and holds them against one another.
func checkDo(t *testing.T, name string, s *screen.Screen, m *model, e api.Event) {
	t.Helper()
	checkRows(t, name+", what went out", s.Do(e), m.do(e), m.w)
	checkModel(t, name, s, m)
}

// sides are numbers, and the ones nearest to them from least to most.
func sides(least, most int) map[int]int {
	out := map[int]int{
		math.MinInt: least, math.MinInt + 1: least, -1 << 32: least, -1<<32 + most: least, -1000: least, -1: least, 0: least, least - 1: least,
		least: least, least + 1: least + 1, most - 2: most - 2, most - 1: most - 1, most: most,
		most + 1: most, most + 2: most, 1000: most, 1 << 32: most, 1<<32 + 5: most, math.MaxInt - 1: most, math.MaxInt: most,
	}
	return out
}

// P9.1: the limits that the chapter names.
func TestLimits(t *testing.T) {
	if api.MinWide != 2 || api.MaxWide != 300 || api.MaxHigh != 100 {
		t.Errorf("the limits are %d, %d, %d", api.MinWide, api.MaxWide, api.MaxHigh)
	}
}

// P9.1: New has blank rows, as many and as wide as is asked, or as the nearer end says, its cursor at 0, 0 and the attribute 0.
func TestNew(t *testing.T) {
	for w, wantW := range sides(2, 300) {
		for h, wantH := range sides(1, 100) {
			rows := slices.Repeat([]api.Row{{Cells: gaps(wantW)}}, wantH)
			check(t, "New", screen.New(w, h), rows, at(0, 0), 0, wantW, wantH)
			check(t, "Of nothing", screen.Of(nil, w, h, at(0, 0), 0), rows, at(0, 0), 0, wantW, wantH)
		}
	}
	for _, w := range []int{2, 3, 4, 7, 80, 132, 299, 300} {
		check(t, "New", screen.New(w, 3), slices.Repeat([]api.Row{{Cells: gaps(w)}}, 3), at(0, 0), 0, w, 3)
	}
}

// P9.1: Of, row by row, written out.
func TestOfRows(t *testing.T) {
	for _, x := range []struct {
		rows string
		w, h int
		want string
	}{
		// as many rows as there may be, fewer, more
		{"", 3, 2, ".../..."},
		{"abc", 3, 2, "abc/..."},
		{"abc/def", 3, 2, "abc/def"},
		{"abc/def/ghi", 3, 2, "abc/def"},
		{"abc/def/ghi", 3, 1, "abc"},
		{"abc/def/ghi", 3, 0, "abc"},
		{"abc|/def|", 3, 3, "abc|/def|/..."},
		// narrower, as wide, wider
		{"a", 3, 1, "a.."},
		{"a|", 3, 1, "a..|"},
		{"|", 3, 1, "...|"},
		{"a/|/abcd", 3, 3, "a../...|/abc"},
		{"abc|", 3, 1, "abc|"},
		{"abcd", 3, 1, "abc"},
		{"abcd|", 3, 1, "abc|"},
		{"aBc~", 3, 1, "aBc"},
		{"ab~~", 3, 1, "ab~"},
		// wide signs at the right edge
		{"中", 2, 1, "中"},
		{"中", 3, 1, "中."},
		{"a中", 2, 1, "a."},
		{"a中|", 2, 1, "a.|"},
		{"a界|", 2, 1, "a.|"},
		{"ab中", 3, 1, "ab."},
		{"ab中", 2, 1, "ab"},
		{"中国", 3, 1, "中."},
		{"中国|", 3, 1, "中.|"},
		{"中国", 2, 1, "中"},
		{"中国|", 4, 1, "中国|"},
		{"中国界", 5, 1, "中国."},
		{"a中国|", 4, 1, "a中.|"},
		{"a中国|", 3, 1, "a中|"},
		{"a中/b中|/中", 2, 3, "a./b.|/中"},
		// Pads
		{"ab_|/中", 3, 2, "ab_|/中."},
		{"ab_|", 2, 1, "ab|"},
		{"_|", 4, 1, "_...|"},
		{"___", 2, 1, "__"},
		{"a_b_", 5, 1, "a_b_."},
		// less than the least width
		{"abc", 0, 1, "ab"},
		{"a中", -7, 1, "a."},
	} {
		want := readAll(x.want)
		s := screen.Of(readAll(x.rows), x.w, x.h, at(0, 0), 0)
		check(t, x.rows, s, want, at(0, 0), 0, max(x.w, 2), max(x.h, 1))
	}
}

// rowsThatMayNot are rows that may not be.
func rowsThatMayNot() []api.Row {
	out := []api.Row{{Cells: letters(301)}, {Cells: gaps(301)}, {Cells: slices.Repeat(wide('中', 0), 151)}, {Cells: letters(1000)}}
	for _, l := range [][]api.Cell{
		wide('中', 0)[:1],
		wide('中', 0)[1:],
		{{}},
		{of('中', 2, 1), of(0, 0, 2)},
		{of('中', 2, 0), of('中', 2, 0)},
		{of(0, 0, 0), of('中', 2, 0)},
		join(wide('中', 0)[:1], letters(1), wide('中', 0)[1:]),
		{of('a', 1, 256)},
		{of('a', 1, -1)},
		{of('a', 2, 0)},
		{of('a', 2, 0), of(0, 0, 0)},
		{of('a', 3, 0)},
		{of('a', 0, 0)},
		{of('中', 1, 0)},
		{of(7, 1, 0)},
		{of(0x301, 1, 0)},
		{of(0, 1, 1)},
		{of(-1, 1, 0)},
		{of(0xD800, 1, 0)},
		{of(0x110000, 1, 0)},
		{of(math.MaxInt32, math.MaxInt, math.MaxInt)},
		{of(math.MinInt32, math.MinInt, math.MinInt)},
	} {
		out = append(out,
			api.Row{Cells: l},
			api.Row{Cells: join(letters(2), l)},
			api.Row{Cells: join(l, letters(2))},
			// beyond what is seen of it: it may not be all the same
			api.Row{Cells: join(letters(50), l, letters(4))})
	}
	for _, r := range slices.Clone(out) {
		out = append(out, api.Row{Cells: r.Cells, Wrap: true})
	}
	return out
}

// P9.1: rows that may not be are blank, without Wrap; those beside them stay as they are.
func TestOfRowsThatMayNotBe(t *testing.T) {
	for _, r := range rowsThatMayNot() {
		if modelMay(r) {
			t.Fatalf("%v may be", r)
		}
		for _, w := range []int{2, 3, 4, 5, 300} {
			beside := read("ab|")
			filled := api.Row{Cells: join(beside.Cells, gaps(w-2)), Wrap: true}
			blank := api.Row{Cells: gaps(w)}
			s := screen.Of([]api.Row{r, beside, r}, w, 4, at(1, 1), 3)
			check(t, "Of a row that may not be", s, []api.Row{blank, filled, blank, blank}, at(1, 1), 3, w, 4)
		}
	}
}

// P9.1: rows of the most cells that there may be, at screens of all widths round them.
func TestOfWidestRows(t *testing.T) {
	full := api.Row{Cells: letters(300), Wrap: true}
	wides := api.Row{Cells: slices.Repeat(wide('中', 4), 150)}
	shifted := api.Row{Cells: join(letters(1), slices.Repeat(wide('中', 4), 149), letters(1)), Wrap: true}
	for _, w := range []int{2, 3, 149, 150, 298, 299, 300, 301, 1 << 40} {
		n := min(w, 300)
		s := screen.Of([]api.Row{full, wides, shifted}, w, 3, at(2, n), 255)
		m := modelOf([]api.Row{full, wides, shifted}, n, 3, at(2, n), 255)
		checkModel(t, "Of", s, m)
		checkRows(t, "Of", s.Rows()[:1], []api.Row{{Cells: letters(n), Wrap: true}}, n)
	}
}

// P9.1: the cursor comes to the nearest place that there is; col w is one.
func TestOfCursor(t *testing.T) {
	for _, size := range []api.Pos{at(1, 2), at(1, 3), at(2, 2), at(3, 4), at(100, 300)} {
		h, w := size.Row, size.Col
		nearest := func(n, most int) int {
			switch {
			case n < 0:
				return 0
			case n > most:
				return most
			}
			return n
		}
		numbers := []int{math.MinInt, -1 << 32, -2, -1, 0, 1, 2, 3, 4, 5, 98, 99, 100, 101, 299, 300, 301, 1 << 32, math.MaxInt}
		for _, row := range numbers {
			for _, col := range numbers {
				s := screen.Of(readAll("a/b"), w, h, at(row, col), 1)
				if got, want := s.Cursor(), at(nearest(row, h-1), nearest(col, w)); got != want {
					t.Errorf("%d, %d: the cursor of %d, %d is at %v, not at %v", w, h, row, col, got, want)
				}
			}
		}
	}
}

// P9.1: a cursor may stand on a second half.
func TestOfCursorOnHalf(t *testing.T) {
	check(t, "on a half", screen.Of(readAll("a中b"), 4, 1, at(0, 2), 0), readAll("a中b"), at(0, 2), 0, 4, 1)
}

// moduli are numbers, and the attributes that they stand for.
func moduli() map[int]int {
	return map[int]int{
		0: 0, 1: 1, 7: 7, 127: 127, 128: 128, 254: 254, 255: 255, 256: 0, 257: 1, 300: 44, 511: 255, 512: 0, 9999: 15,
		-1: 255, -2: 254, -255: 1, -256: 0, -257: 255, -512: 0, -513: 255,
		1 << 32: 0, 1<<32 + 5: 5, -1<<32 - 1: 255, math.MaxInt: 255, math.MaxInt - 255: 0, math.MinInt: 0, math.MinInt + 3: 3,
	}
}

// P9.1, P9.2: attributes are taken modulo 256, from 0 on, by Of and by m, and the next sign has it.
func TestAttributes(t *testing.T) {
	for n, want := range moduli() {
		s := screen.Of(nil, 4, 1, at(0, 0), n)
		check(t, "Of", s, readAll("...."), at(0, 0), want, 4, 1)
		s.Do(prints('x'))
		check(t, "Of, print", s, []api.Row{{Cells: join(cell.Of('x', want), gaps(3))}}, at(0, 1), want, 4, 1)
		s = screen.Of(nil, 4, 1, at(0, 1), 9)
		s.Do(csi('m', n))
		check(t, "m", s, readAll("...."), at(0, 1), want, 4, 1)
		s.Do(prints('中'))
		check(t, "m, print", s, []api.Row{{Cells: join(gaps(1), wide('中', want), gaps(1))}}, at(0, 3), want, 4, 1)
	}
}

// P9.2: each attribute, of a narrow sign, of a wide one, and of none of a Pad.
func TestEachAttribute(t *testing.T) {
	for a := range 256 {
		s := screen.New(2, 3)
		s.Do(csi('m', a))
		for _, r := range "x中y" {
			s.Do(prints(r))
		}
		want := []api.Row{{Cells: []api.Cell{of('x', 1, a), of(0, 1, 0)}, Wrap: true}, {Cells: wide('中', a), Wrap: true}, {Cells: join(cell.Of('y', a), gaps(1))}}
		check(t, "each attribute", s, want, at(2, 1), a, 2, 3)
	}
}

// P9.2: m takes each number, so the last one counts; without one it is 0.
func TestManyAttributes(t *testing.T) {
	for _, x := range []struct {
		args []int
		want int
	}{
		{nil, 0}, {[]int{}, 0}, {[]int{0}, 0}, {[]int{5}, 5}, {[]int{5, 6}, 6}, {[]int{6, 5}, 5}, {[]int{1, 0}, 0}, {[]int{0, 1}, 1},
		{[]int{1, 300}, 44}, {[]int{300, -1}, 255}, {[]int{-1, 256}, 0}, {[]int{1, 2, 3, 4, 5, 6, 7, 8}, 8},
		{[]int{1, 2, 3, 4, 5, 6, 7, 8, 9, 10, 11}, 11}, {slices.Repeat([]int{3}, 1000), 3},
	} {
		s := screen.Of(nil, 3, 1, at(0, 1), 77)
		if gone := s.Do(csi('m', x.args...)); len(gone) != 0 {
			t.Errorf("m of %v: %v goes out", x.args, gone)
		}
		check(t, "m", s, readAll("..."), at(0, 1), x.want, 3, 1)
	}
}

// P9.2: m turns nothing that stands there.
func TestAttributeOfWhatStands(t *testing.T) {
	s := screen.Of(readAll("a中~|/B.."), 4, 2, at(0, 4), 7)
	s.Do(csi('m', 200))
	check(t, "m", s, readAll("a中~|/B..."), at(0, 3), 200, 4, 2)
}

// step is one of a table: a screen, events, and what is then to be seen.
type step struct {
	rows   string
	at     api.Pos
	events []api.Event
	gone   string
	want   string
	wantAt api.Pos
}

// checkStep does the events of x, with the attribute 0, on a screen that its rows just fill.
func checkStep(t *testing.T, x step) {
	t.Helper()
	rows := readAll(x.rows)
	w, h := len(rows[0].Cells), len(rows)
	s := screen.Of(rows, w, h, x.at, 0)
	var gone []api.Row
	for _, e := range x.events {
		gone = append(gone, s.Do(e)...)
	}
	name := x.rows + " behind " + tell(x.events)
	checkRows(t, name+", what went out", gone, readAll(x.gone), w)
	check(t, name, s, readAll(x.want), x.wantAt, 0, w, h)
}

// tell tells events in short.
func tell(l []api.Event) string {
	var out strings.Builder
	for _, e := range l {
		if e.Kind == api.ECsi {
			out.WriteString("CSI ")
		}
		out.WriteString(string(e.R) + " ")
	}
	return out.String()
}

// list are events in short.
func list(l ...api.Event) []api.Event { return l }

// P9.2: EPrint, written out.
func TestPrint(t *testing.T) {
	x, w := prints('x'), prints('国')
	for _, s := range []step{
		// a narrow sign at each col
		{"abc/def", at(0, 0), list(x), "", "xbc/def", at(0, 1)},
		{"abc/def", at(0, 1), list(x), "", "axc/def", at(0, 2)},
		{"abc/def", at(0, 2), list(x), "", "abx/def", at(0, 3)},
		{"abc/def", at(0, 3), list(x), "", "abc|/xef", at(1, 1)},
		{"abc/def", at(1, 2), list(x), "", "abc/dex", at(1, 3)},
		{"abc/def", at(1, 3), list(x), "abc", "def|/x..", at(1, 1)},
		{"abc|/def", at(1, 3), list(x), "abc|", "def|/x..", at(1, 1)},
		{"abc|/def", at(0, 3), list(x), "", "abc|/xef", at(1, 1)},
		{"abc|/def", at(0, 2), list(x), "", "abx|/def", at(0, 3)},
		{"abc/def|", at(0, 3), list(x), "", "abc|/xef|", at(1, 1)},
		// a wide one
		{"abc/def", at(0, 0), list(w), "", "国c/def", at(0, 2)},
		{"abc/def", at(0, 1), list(w), "", "a国/def", at(0, 3)},
		{"abc/def", at(0, 2), list(w), "", "ab_|/国f", at(1, 2)},
		{"abc/def", at(0, 3), list(w), "", "abc|/国f", at(1, 2)},
		{"abc/def", at(1, 2), list(w), "abc", "de_|/国.", at(1, 2)},
		{"abc/def", at(1, 3), list(w), "abc", "def|/国.", at(1, 2)},
		{"ab", at(0, 0), list(w), "", "国", at(0, 2)},
		{"ab", at(0, 1), list(w), "a_|", "国", at(0, 2)},
		{"ab", at(0, 2), list(w), "ab|", "国", at(0, 2)},
		{"ab", at(0, 2), list(x), "ab|", "x.", at(0, 1)},
		// over halves
		{"中c/def", at(0, 0), list(x), "", "x.c/def", at(0, 1)},
		{"中c/def", at(0, 1), list(x), "", ".xc/def", at(0, 2)},
		{"中c/def", at(0, 0), list(w), "", "国c/def", at(0, 2)},
		{"中c/def", at(0, 1), list(w), "", ".国/def", at(0, 3)},
		{"a中/def", at(0, 0), list(w), "", "国./def", at(0, 2)},
		{"a中/def", at(0, 2), list(x), "", "a.x/def", at(0, 3)},
		{"中中", at(0, 1), list(w), "", ".国.", at(0, 3)},
		{"a中/中d", at(0, 3), list(x), "", "a中|/x.d", at(1, 1)},
		{"abc/d中", at(0, 3), list(w), "", "abc|/国.", at(1, 2)},
		// a Pad over a half, over a sign, over a Pad
		{"a中/中d", at(0, 2), list(w), "", "a._|/国d", at(1, 2)},
		{"ab_|/中d", at(0, 2), list(w), "", "ab_|/国d", at(1, 2)},
		{"ab_|/中d", at(0, 2), list(x), "", "abx|/中d", at(0, 3)},
		{"中/中", at(1, 1), list(w), "中", "._|/国", at(1, 2)},
		// one behind the other
		{".../...", at(0, 0), list(x, w, x, w, x), "x国|", "x国|/x..", at(1, 1)},
		{".../...", at(0, 0), list(x, x, w, x, w), "xx_|", "国x|/国.", at(1, 2)},
		{"..", at(0, 0), list(w, w, w), "国|/国|", "国", at(0, 2)},
		{"...", at(0, 0), list(w, w, w), "国_|/国_|", "国.", at(0, 2)},
	} {
		checkStep(t, s)
	}
}

// P9.2: a sign of no width, and one that is none, turns nothing, not behind the last cell either.
func TestPrintOfNoWidth(t *testing.T) {
	for _, r := range []rune{0, 7, 8, 9, 10, 13, 27, 31, 127, 128, 159, 0x300, 0x301, 0x36F, 0x200B, 0xFE0F, 0xD800, 0xDFFF, 0x110000, math.MaxInt32, -1, math.MinInt32} {
		for col := range 5 {
			for row := range 2 {
				s := screen.Of(readAll("a中d|/中ef"), 4, 2, at(row, col), 6)
				if gone := s.Do(prints(r)); len(gone) != 0 {
					t.Fatalf("print of %x: %v goes out", r, gone)
				}
				check(t, "print of no width", s, readAll("a中d|/中ef"), at(row, col), 6, 4, 2)
			}
		}
	}
}

// P9.2: an event's fields that its kind does not name count for nothing.
func TestFieldsThatDoNotCount(t *testing.T) {
	for _, x := range []struct{ plain, more api.Event }{
		{prints('x'), api.Event{Kind: api.EPrint, R: 'x', Args: []int{5, 6}, Text: "text"}},
		{ctrl(10), api.Event{Kind: api.ECtrl, R: 10, Args: []int{5, 6}, Text: "text"}},
		{csi('C', 2), api.Event{Kind: api.ECsi, R: 'C', Args: []int{2}, Text: "text"}},
	} {
		a, b := screen.Of(readAll("abc/def"), 3, 2, at(1, 3), 0), screen.Of(readAll("abc/def"), 3, 2, at(1, 3), 0)
		checkRows(t, "what went out", a.Do(x.more), b.Do(x.plain), 3)
		check(t, "more fields", a, b.Rows(), b.Cursor(), 0, 3, 2)
	}
}

// P9.2: the control signs, written out.
func TestControls(t *testing.T) {
	back, tab, feed, home := ctrl(8), ctrl(9), ctrl(10), ctrl(13)
	wides := ".................../..................."
	for _, s := range []step{
		{"abc/def", at(0, 3), list(back), "", "abc/def", at(0, 2)},
		{"abc/def", at(0, 1), list(back), "", "abc/def", at(0, 0)},
		{"abc/def", at(1, 0), list(back), "", "abc/def", at(1, 0)},
		{"abc/def", at(0, 0), list(tab), "", "abc/def", at(0, 2)},
		{"abc/def", at(0, 2), list(tab), "", "abc/def", at(0, 2)},
		{"abc/def", at(0, 3), list(tab), "", "abc/def", at(0, 2)},
		{wides, at(0, 0), list(tab), "", wides, at(0, 8)},
		{wides, at(0, 7), list(tab), "", wides, at(0, 8)},
		{wides, at(0, 8), list(tab), "", wides, at(0, 16)},
		{wides, at(1, 15), list(tab), "", wides, at(1, 16)},
		{wides, at(1, 16), list(tab), "", wides, at(1, 18)},
		{wides, at(1, 18), list(tab), "", wides, at(1, 18)},
		{wides, at(1, 19), list(tab), "", wides, at(1, 18)},
		{"........", at(0, 0), list(tab), "", "........", at(0, 7)},
		{".........", at(0, 0), list(tab), "", ".........", at(0, 8)},
		{"abc/def", at(0, 0), list(feed), "", "abc/def", at(1, 0)},
		{"abc/def", at(0, 2), list(feed), "", "abc/def", at(1, 2)},
		{"abc/def", at(0, 3), list(feed), "", "abc/def", at(1, 2)},
		{"abc|/def", at(0, 3), list(feed), "", "abc|/def", at(1, 2)},
		{"abc/def", at(1, 1), list(feed), "abc", "def/...", at(1, 1)},
		{"a中|/def|", at(1, 3), list(feed), "a中|", "def|/...", at(1, 2)},
		{"abc|", at(0, 0), list(feed), "abc|", "...", at(0, 0)},
		{"abc/def|", at(0, 0), list(feed, feed, feed), "abc/def|", ".../...", at(1, 0)},
		{"abc/def", at(0, 3), list(home), "", "abc/def", at(0, 0)},
		{"abc/def", at(1, 2), list(home), "", "abc/def", at(1, 0)},
		{"abc/def", at(1, 0), list(home), "", "abc/def", at(1, 0)},
	} {
		checkStep(t, s)
	}
}

// P9.2: where a tab leads to, from each col of screens of many widths.
func TestTabs(t *testing.T) {
	for _, w := range []int{2, 3, 7, 8, 9, 10, 15, 16, 17, 80, 299, 300} {
		for col := 0; col <= w; col++ {
			want := col + 1
			for want%8 != 0 {
				want++
			}
			s := screen.Of(nil, w, 1, at(0, col), 0)
			s.Do(ctrl(9))
			if got := s.Cursor(); got != at(0, min(want, w-1)) {
				t.Errorf("%d wide: a tab from %d leads to %v", w, col, got)
			}
		}
	}
}

// P9.2: other control signs are nothing.
func TestOtherControls(t *testing.T) {
	for r := rune(-2); r < 300; r++ {
		if r == 8 || r == 9 || r == 10 || r == 13 {
			continue
		}
		s := screen.Of(readAll("ab|/cd"), 2, 2, at(1, 2), 3)
		if gone := s.Do(ctrl(r)); len(gone) != 0 {
			t.Fatalf("control %d: %v goes out", r, gone)
		}
		check(t, "another control", s, readAll("ab|/cd"), at(1, 2), 3, 2, 2)
	}
}

// P9.2: A, B, C, D and H, written out.
func TestMoves(t *testing.T) {
	big := "abcd/efgh/ijkl"
	for _, x := range []struct {
		from api.Pos
		last rune
		args []int
		want api.Pos
	}{
		{at(1, 1), 'A', nil, at(0, 1)},
		{at(1, 1), 'B', nil, at(2, 1)},
		{at(1, 1), 'C', nil, at(1, 2)},
		{at(1, 1), 'D', nil, at(1, 0)},
		{at(1, 1), 'A', []int{0}, at(0, 1)},
		{at(1, 1), 'B', []int{0}, at(2, 1)},
		{at(1, 1), 'C', []int{0}, at(1, 2)},
		{at(1, 1), 'D', []int{0}, at(1, 0)},
		{at(2, 1), 'A', []int{2}, at(0, 1)},
		{at(0, 1), 'B', []int{2}, at(2, 1)},
		{at(0, 1), 'C', []int{2}, at(0, 3)},
		{at(0, 3), 'D', []int{2}, at(0, 1)},
		{at(2, 1), 'A', []int{3}, at(0, 1)},
		{at(0, 1), 'B', []int{3}, at(2, 1)},
		{at(0, 1), 'C', []int{3}, at(0, 3)},
		{at(0, 1), 'D', []int{2}, at(0, 0)},
		{at(2, 2), 'A', []int{9999}, at(0, 2)},
		{at(0, 2), 'B', []int{9999}, at(2, 2)},
		{at(2, 0), 'C', []int{9999}, at(2, 3)},
		{at(2, 3), 'D', []int{9999}, at(2, 0)},
		{at(2, 2), 'A', []int{math.MaxInt}, at(0, 2)},
		{at(1, 2), 'B', []int{math.MaxInt}, at(2, 2)},
		{at(2, 1), 'C', []int{math.MaxInt}, at(2, 3)},
		{at(2, 3), 'D', []int{math.MaxInt}, at(2, 0)},
		// so many the other way
		{at(1, 2), 'A', []int{-1}, at(2, 2)},
		{at(1, 2), 'B', []int{-1}, at(0, 2)},
		{at(1, 2), 'C', []int{-1}, at(1, 1)},
		{at(1, 2), 'D', []int{-1}, at(1, 3)},
		{at(1, 2), 'A', []int{math.MinInt}, at(2, 2)},
		{at(1, 2), 'B', []int{math.MinInt}, at(0, 2)},
		{at(1, 2), 'C', []int{math.MinInt}, at(1, 0)},
		{at(1, 1), 'D', []int{math.MinInt}, at(1, 3)},
		// from behind the last cell
		{at(1, 4), 'A', nil, at(0, 3)},
		{at(1, 4), 'B', nil, at(2, 3)},
		{at(1, 4), 'C', nil, at(1, 3)},
		{at(1, 4), 'D', nil, at(1, 2)},
		{at(0, 4), 'A', nil, at(0, 3)},
		{at(2, 4), 'B', nil, at(2, 3)},
		// one number counts
		{at(2, 2), 'A', []int{1, 9}, at(1, 2)},
		{at(0, 2), 'B', []int{1, 9, 9}, at(1, 2)},
		{at(2, 1), 'C', []int{0, 9}, at(2, 2)},
		{at(2, 3), 'D', []int{1, 0}, at(2, 2)},
		// a place
		{at(1, 1), 'H', nil, at(0, 0)},
		{at(1, 1), 'H', []int{0}, at(0, 0)},
		{at(1, 1), 'H', []int{0, 0}, at(0, 0)},
		{at(1, 1), 'H', []int{1, 1}, at(0, 0)},
		{at(1, 1), 'H', []int{3}, at(2, 0)},
		{at(1, 1), 'H', []int{0, 3}, at(0, 2)},
		{at(1, 1), 'H', []int{2, 3}, at(1, 2)},
		{at(1, 1), 'H', []int{3, 4}, at(2, 3)},
		{at(1, 1), 'H', []int{4, 5}, at(2, 3)},
		{at(1, 1), 'H', []int{4, 2}, at(2, 1)},
		{at(1, 1), 'H', []int{2, 5}, at(1, 3)},
		{at(1, 1), 'H', []int{math.MaxInt, math.MaxInt}, at(2, 3)},
		{at(1, 1), 'H', []int{-1, -1}, at(0, 0)},
		{at(1, 1), 'H', []int{math.MinInt, 2}, at(0, 1)},
		{at(1, 1), 'H', []int{2, math.MinInt}, at(1, 0)},
		{at(1, 1), 'H', []int{2, 3, 9, 9}, at(1, 2)},
		{at(1, 4), 'H', []int{2, 2}, at(1, 1)},
	} {
		checkStep(t, step{big, x.from, list(csi(x.last, x.args...)), "", big, x.want})
	}
}

// P9.2: the last places of the greatest screen can be reached, and no move stops short of them.
func TestMovesOnGreatestScreen(t *testing.T) {
	for _, x := range []struct {
		from api.Pos
		e    api.Event
		want api.Pos
	}{
		{at(0, 0), csi('H', 100, 300), at(99, 299)},
		{at(0, 0), csi('H', 99, 299), at(98, 298)},
		{at(0, 0), csi('H', 101, 301), at(99, 299)},
		{at(0, 5), csi('B', 99), at(99, 5)},
		{at(0, 5), csi('B', 98), at(98, 5)},
		{at(99, 5), csi('A', 99), at(0, 5)},
		{at(99, 5), csi('A', 98), at(1, 5)},
		{at(7, 0), csi('C', 299), at(7, 299)},
		{at(7, 0), csi('C', 298), at(7, 298)},
		{at(7, 299), csi('D', 299), at(7, 0)},
		{at(7, 299), csi('D', 298), at(7, 1)},
		{at(7, 300), csi('D', 299), at(7, 0)},
		{at(99, 300), csi('D', math.MinInt), at(99, 299)},
		{at(99, 299), csi('C', math.MinInt), at(99, 0)},
		{at(99, 299), csi('C', -299), at(99, 0)},
	} {
		s := screen.Of(nil, 300, 100, x.from, 0)
		if s.Do(x.e); s.Cursor() != x.want {
			t.Errorf("%v from %v leads to %v", x.e, x.from, s.Cursor())
		}
	}
}

// P9.2: J and K, written out.
func TestErase(t *testing.T) {
	full := "abcd|/efgh|/ijkl|"
	for _, x := range []struct {
		rows string
		from api.Pos
		e    api.Event
		want string
	}{
		{full, at(1, 1), csi('K'), "abcd|/e.../ijkl|"},
		{full, at(1, 1), csi('K', 0), "abcd|/e.../ijkl|"},
		{full, at(1, 0), csi('K'), "abcd|/..../ijkl|"},
		{full, at(1, 3), csi('K'), "abcd|/efg./ijkl|"},
		{full, at(1, 4), csi('K'), "abcd|/efg./ijkl|"},
		{full, at(1, 0), csi('K', 1), "abcd|/.fgh|/ijkl|"},
		{full, at(1, 1), csi('K', 1), "abcd|/..gh|/ijkl|"},
		{full, at(1, 2), csi('K', 1), "abcd|/...h|/ijkl|"},
		{full, at(1, 3), csi('K', 1), "abcd|/..../ijkl|"},
		{full, at(1, 4), csi('K', 1), "abcd|/..../ijkl|"},
		{full, at(1, 0), csi('K', 2), "abcd|/..../ijkl|"},
		{full, at(1, 2), csi('K', 2), "abcd|/..../ijkl|"},
		{full, at(1, 4), csi('K', 2), "abcd|/..../ijkl|"},
		{full, at(1, 1), csi('J'), "abcd|/e.../...."},
		{full, at(1, 1), csi('J', 0), "abcd|/e.../...."},
		{full, at(0, 0), csi('J'), "..../..../...."},
		{full, at(2, 4), csi('J'), "abcd|/efgh|/ijk."},
		{full, at(1, 1), csi('J', 1), "..../..gh|/ijkl|"},
		{full, at(0, 0), csi('J', 1), ".bcd|/efgh|/ijkl|"},
		{full, at(2, 3), csi('J', 1), "..../..../...."},
		{full, at(2, 4), csi('J', 1), "..../..../...."},
		{full, at(0, 0), csi('J', 2), "..../..../...."},
		{full, at(1, 2), csi('J', 2), "..../..../...."},
		{full, at(2, 4), csi('J', 2), "..../..../...."},
		// other numbers: nothing; further numbers: nothing
		{full, at(1, 1), csi('J', 3), full},
		{full, at(1, 1), csi('J', -1), full},
		{full, at(1, 1), csi('J', math.MaxInt), full},
		{full, at(1, 1), csi('K', 3), full},
		{full, at(1, 1), csi('K', -1), full},
		{full, at(1, 1), csi('K', math.MinInt), full},
		{full, at(1, 1), csi('J', 3, 2), full},
		{full, at(1, 1), csi('K', 3, 2), full},
		{full, at(1, 1), csi('J', 1, 2), "..../..gh|/ijkl|"},
		{full, at(1, 1), csi('K', 0, 2), "abcd|/e.../ijkl|"},
		// a half that is left is Blank
		{"中中|", at(0, 1), csi('K'), "...."},
		{"中中|", at(0, 2), csi('K'), "中.."},
		{"中中|", at(0, 3), csi('K'), "中.."},
		{"中中|", at(0, 4), csi('K'), "中.."},
		{"中中|", at(0, 0), csi('K', 1), "..中|"},
		{"中中|", at(0, 1), csi('K', 1), "..中|"},
		{"中中|", at(0, 2), csi('K', 1), "....|"},
		{"中中|", at(0, 3), csi('K', 1), "...."},
		{"a中b|", at(0, 1), csi('K'), "a..."},
		{"a中b|", at(0, 2), csi('K'), "a..."},
		{"a中b|", at(0, 1), csi('K', 1), "...b|"},
		{"a中b|", at(0, 2), csi('K', 1), "...b|"},
		{"中中|/a中b|/中中|", at(1, 2), csi('J'), "中中|/a.../...."},
		{"中中|/a中b|/中中|", at(1, 1), csi('J', 1), "..../...b|/中中|"},
		// Pads and blanks with an attribute go too
		{"ab~_|", at(0, 2), csi('K'), "ab.."},
		{"~_ab|", at(0, 1), csi('K', 1), "..ab|"},
	} {
		cols := len(readAll(x.rows)[0].Cells)
		checkStep(t, step{x.rows, x.from, list(x.e), "", x.want, at(x.from.Row, min(x.from.Col, cols-1))})
	}
}

// P9.2: what is erased is Blank whatever the attribute, and the attribute stays.
func TestEraseWithAttribute(t *testing.T) {
	for _, e := range list(csi('J', 2), csi('K', 2), csi('J'), csi('K')) {
		s := screen.Of(readAll("AB"), 2, 1, at(0, 0), 200)
		s.Do(e)
		check(t, "erased", s, readAll(".."), at(0, 0), 200, 2, 1)
	}
}

// P9.2: each last byte that is known takes a cursor off col w, also where it does nothing else.
func TestKnownLastBytesLeaveTheEnd(t *testing.T) {
	for _, e := range list(csi('J', 3), csi('K', 9), csi('m', 4), csi('m'), csi('C'), csi('C', 5), csi('A', 5), csi('B')) {
		s := screen.Of(readAll("abc|"), 3, 1, at(0, 3), 4)
		s.Do(e)
		if s.Cursor() != at(0, 2) {
			t.Errorf("%v leaves the cursor at %v", e, s.Cursor())
		}
		checkRows(t, "known", s.Rows(), readAll("abc|"), 3)
	}
}

// P9.2: all other last bytes, EOsc, and kinds that there are not, are nothing, at col w too.
func TestOthers(t *testing.T) {
	var all []api.Event
	for r := rune(-2); r < 300; r++ {
		if !strings.ContainsRune("ABCDHJKm", max(r, 0)) {
			all = append(all, csi(r), csi(r, 2), csi(r, 2, 2))
		}
	}
	for _, r := range []rune{math.MinInt32, -1, 0, 'a', 'h', 0xD800, 0xFFFD, 0x110000, 'A' + 1<<16, 'm' + 1<<24, math.MaxInt32} {
		all = append(all, csi(r, 1), csi(r))
		all = append(all, api.Event{Kind: api.EOsc, R: r, Args: []int{1}, Text: "0;title"})
	}
	all = append(all, api.Event{Kind: api.EOsc}, api.Event{Kind: api.EOsc, Text: "52;c;YQ=="}, api.Event{Kind: api.EOsc, R: 10})
	for _, kind := range []int{math.MinInt, -4, -3, -2, -1, 0, 5, 6, 9, 256 + api.EPrint, 1<<32 + api.EPrint, math.MaxInt} {
		for _, r := range []rune{0, 8, 10, 'x', 'A', 'J', 'K', 'm', '中'} {
			all = append(all, api.Event{Kind: kind, R: r}, api.Event{Kind: kind, R: r, Args: []int{2, 2}, Text: "x"})
		}
	}
	for _, e := range all {
		for _, from := range []api.Pos{at(0, 1), at(1, 2), at(1, 3)} {
			s := screen.Of(readAll("中d|/a中"), 3, 2, from, 5)
			if gone := s.Do(e); len(gone) != 0 {
				t.Fatalf("%v: %v goes out", e, gone)
			}
			check(t, "others", s, readAll("中d|/a中"), from, 5, 3, 2)
		}
	}
}
