package reflow_test

import (
	"math"
	"slices"
	"strings"
	"testing"

	"rotulus/api"
	"rotulus/line"
	"rotulus/pack"
	"rotulus/reflow"
)

// of is a cell in short.
func of(r rune, w, a int) api.Cell { return api.Cell{R: r, W: w, A: a} }

// wide are the cells of a wide sign.
func wide(r rune, a int) []api.Cell { return []api.Cell{of(r, 2, a), of(0, 0, a)} }

// letters are n alike cells.
func letters(n int) []api.Cell { return slices.Repeat([]api.Cell{of('a', 1, 0)}, n) }

// gaps are n Blanks.
func gaps(n int) []api.Cell { return slices.Repeat([]api.Cell{of(' ', 1, 0)}, n) }

// list is a list of what is handed in.
func list[T any](all ...T) []T { return all }

// at is a place in short.
func at(row, col int) api.Pos { return api.Pos{Row: row, Col: col} }

// read makes a row of a text: . is a Blank, ~ a blank with the attribute 7, _ a Pad, 中 and 国 a wide sign (two cells), 界 one with the attribute 7, < a first half alone, > a second one, a capital one with the attribute 255, | at the end Wrap.
func read(s string) api.Row {
	var r api.Row
	for _, x := range s {
		switch {
		case x == '.':
			r.Cells = append(r.Cells, of(' ', 1, 0))
		case x == '~':
			r.Cells = append(r.Cells, of(' ', 1, 7))
		case x == '_':
			r.Cells = append(r.Cells, of(0, 1, 0))
		case x == '中' || x == '国':
			r.Cells = append(r.Cells, wide(x, 0)...)
		case x == '界':
			r.Cells = append(r.Cells, wide(x, 7)...)
		case x == '<':
			r.Cells = append(r.Cells, of('中', 2, 0))
		case x == '>':
			r.Cells = append(r.Cells, of(0, 0, 0))
		case x == '|':
			r.Wrap = true
		case 'A' <= x && x <= 'Z':
			r.Cells = append(r.Cells, of(x, 1, 255))
		default:
			r.Cells = append(r.Cells, of(x, 1, 0))
		}
	}
	return r
}

// readAll makes rows of a text, with a / between two.
func readAll(s string) []api.Row {
	var out []api.Row
	for _, x := range strings.Split(s, "/") {
		out = append(out, read(x))
	}
	return out
}

// same says whether a and b are the same row, without asking the program.
func same(a, b api.Row) bool { return a.Wrap == b.Wrap && slices.Equal(a.Cells, b.Cells) }

// ownRows are rows that share nothing with l.
func ownRows(l []api.Row) []api.Row {
	var out []api.Row
	for _, r := range l {
		out = append(out, api.Row{Cells: slices.Clone(r.Cells), Wrap: r.Wrap})
	}
	return out
}

// thinned are the beginnings of rows, to be told where a test fails.
func thinned(rows []api.Row) []api.Row {
	out := slices.Clone(rows[:min(len(rows), 8)])
	for i, r := range out {
		out[i].Cells = r.Cells[:min(len(r.Cells), 12)]
	}
	return out
}

// checkRows holds rows that were told against the ones that are wanted, and that they may be.
func checkRows(t *testing.T, name string, got, want []api.Row) {
	t.Helper()
	if !slices.EqualFunc(got, want, same) {
		t.Fatalf("%s: %d rows %v, not %d rows %v", name, len(got), thinned(got), len(want), thinned(want))
	}
	for _, r := range got {
		if !pack.May(r) {
			t.Fatalf("%s: a row that may not be: %v", name, r)
		}
	}
}

// checkReflow holds Rows against what is wanted, with its marks and without, and that what is handed in stays.
func checkReflow(t *testing.T, name string, rows []api.Row, w int, marks []api.Pos, want []api.Row, moved []api.Pos) {
	t.Helper()
	handed, places := ownRows(rows), slices.Clone(marks)
	got, told := reflow.Rows(handed, w, places...)
	checkRows(t, name, got, want)
	if !slices.Equal(told, moved) {
		t.Fatalf("%s, %d wide: the marks %v at %v, not %v", name, w, marks, told, moved)
	}
	if !slices.EqualFunc(handed, rows, same) || !slices.Equal(places, marks) {
		t.Fatalf("%s, %d wide: what is handed in is changed", name, w)
	}
	got, told = reflow.Rows(handed, w)
	checkRows(t, name+", no marks", got, want)
	if len(told) != 0 {
		t.Fatalf("%s, %d wide: no marks, and %v", name, w, told)
	}
}

// layouts are rows, and the rows that they are at a width.
func layouts() []struct {
	rows string
	w    int
	want string
} {
	return []struct {
		rows string
		w    int
		want string
	}{
		// One row: narrower, as wide, wider.
		{"abc", 2, "ab|/c."}, {"abc", 3, "abc"}, {"abc", 5, "abc.."}, {"abcd", 2, "ab|/cd"}, {"abcdefg", 3, "abc|/def|/g.."}, {"a", 2, "a."},
		// None goes on, all do, some do, the last one does.
		{"ab/cd", 2, "ab/cd"}, {"ab/cd", 3, "ab./cd."}, {"abc/def", 2, "ab|/c./de|/f."}, {"abc/def/g", 9, "abc....../def....../g........"},
		{"abc|/def", 3, "abc|/def"}, {"abc|/def|", 2, "ab|/cd|/ef"}, {"abc|/def|", 4, "abcd|/ef.."}, {"abc|/def|/ghi|", 9, "abcdefghi"}, {"abc|/def|/ghi|", 8, "abcdefgh|/i......."},
		{"abc|/de./fgh|/i..", 4, "abcd|/e.../fghi"}, {"abc/def|/g../hij", 2, "ab|/c./de|/fg/hi|/j."}, {"a|/b/c|/d/e", 2, "ab/cd/e."},
		{"abc|", 3, "abc"}, {"abc|", 2, "ab|/c."}, {"abc/de.|", 3, "abc/de."}, {"...|", 2, ".."}, {"|", 2, ".."},
		// Rows without cells, alone, between others, as a line's first, middle and last one.
		{"", 3, "..."}, {"/", 2, "../.."}, {"//", 2, "../../.."}, {"|/", 2, ".."}, {"|/|/|", 2, ".."}, {"a//b", 2, "a./../b."}, {"ab|//c", 3, "ab./c.."}, {"a|/|/b", 2, "ab"}, {"|/a", 2, "a."}, {"/a", 2, "../a."}, {"a|/", 2, "a."},
		// Rows of Blanks alone.
		{"...", 2, ".."}, {".../...", 4, "..../...."}, {"a../.../b..", 2, "a./../b."}, {"...|/...", 2, ".."}, {"...|/...|/..b", 4, "....|/....|/b..."}, {"...|/...|/..b", 9, "........b"}, {"a..|/...|/b..", 3, "a..|/...|/b.."},
		// Blanks at the end of a row that goes on stay, those at the whole end don't.
		{"ab.|/c..", 2, "ab|/.c"}, {"ab.|/c..", 3, "ab.|/c.."}, {"ab.|/c..", 4, "ab.c"}, {"ab.|/...", 2, "ab"}, {"ab.|/...|/...", 4, "ab.."}, {"a....", 2, "a."}, {"abc..", 3, "abc"}, {"abc|/...", 3, "abc"}, {".a.", 2, ".a"}, {"..a", 2, "..|/a."},
		// Pads are gone, in the last col and elsewhere.
		{"ab_|/中.", 4, "ab中"}, {"ab_|/中.", 3, "ab_|/中."}, {"ab_|/中.", 5, "ab中."}, {"a_b", 2, "ab"}, {"_a_|/_b_", 3, "ab."}, {"ab_", 2, "ab"}, {"__", 3, "..."}, {"a._.", 2, "a."}, {"a._|/b", 3, "a.b"}, {"_/_", 2, "../.."},
		// Wide signs at the edge.
		{"中", 2, "中"}, {"中国", 2, "中|/国"}, {"a中b", 2, "a_|/中|/b."}, {"ab中", 2, "ab|/中"}, {"a中|/国b", 2, "a_|/中|/国|/b."},
		{"中", 3, "中."}, {"中国", 3, "中_|/国."}, {"a中b", 3, "a中|/b.."}, {"ab中", 3, "ab_|/中."}, {"中国中", 3, "中_|/国_|/中."}, {"abc中", 3, "abc|/中."}, {"中.国", 3, "中.|/国."},
		{"中国", 4, "中国"}, {"a中国", 4, "a中_|/国.."}, {"中国中", 4, "中国|/中.."}, {"abc中", 4, "abc_|/中.."}, {"a中b国c", 4, "a中b|/国c."},
		// A blank with an attribute is no Blank; attributes stay, of both halves.
		{"a~~", 2, "a~|/~."}, {"a.~|/...", 2, "a.|/~."}, {"~~~", 2, "~~|/~."}, {"~|/~..", 3, "~~."}, {"A界~.", 3, "A界|/~.."}, {"AB界", 3, "AB_|/界."}, {"界界|/界~", 4, "界界|/界~."},
		// Rows that may not be are without cells and Wrap.
		{"ab|/>|/cd", 3, "ab./cd."}, {"ab|/<|/cd|/e", 3, "ab./cde"}, {"ab|/a<b|/cd", 4, "ab../cd.."}, {">", 2, ".."}, {">|/ab", 2, "../ab"}, {">|/>|/>|", 2, "../../.."}, {"a..|/>", 2, "a."}, {"中|/中>|/国", 2, "中/国"}, {"ab|/|/c>|/d|/e", 2, "ab/de"},
	}
}

// P11.1: Rows of rows that are written out.
func TestRows(t *testing.T) {
	for _, x := range layouts() {
		checkReflow(t, x.rows, readAll(x.rows), x.w, nil, readAll(x.want), nil)
	}
}

// P11.1: what Rows tells is All of Join at that width, and each mark Place of its Spot.
func TestRowsByLine(t *testing.T) {
	for _, x := range layouts() {
		rows := readAll(x.rows)
		ls, marks := line.Join(rows), marksOf(rows)
		for _, w := range []int{2, 3, 4, 5, 80, 299, 300} {
			var moved []api.Pos
			for _, p := range marks {
				moved = append(moved, line.Place(ls, w, line.Spot(rows, p)))
			}
			checkReflow(t, x.rows, rows, w, marks, line.All(ls, w), moved)
		}
	}
}

// P11.1: no width but 2 to 300; nil, nil of others.
func TestWidthsThatMayNot(t *testing.T) {
	for _, w := range []int{math.MinInt, math.MinInt + 1, -1 << 32, -300, -2, -1, 0, 1, 301, 302, 600, 1 << 32, 1<<32 + 80, math.MaxInt - 1, math.MaxInt} {
		for _, rows := range [][]api.Row{nil, {}, readAll("a"), readAll("abc|/中/>|"), list(api.Row{Cells: letters(300)}), list(api.Row{Cells: letters(301)})} {
			for _, marks := range [][]api.Pos{nil, {}, {at(0, 0)}, {at(0, 1), at(1, 0), at(9, 9)}} {
				if got, moved := reflow.Rows(rows, w, marks...); got != nil || moved != nil {
					t.Fatalf("%d rows, %d marks, %d wide: %v, %v", len(rows), len(marks), w, thinned(got), moved)
				}
			}
		}
	}
}

// P11.1: the narrowest and the widest, and those beside them, of rows of up to 300 cells.
func TestWidthsAtTheEnds(t *testing.T) {
	for _, w := range []int{2, 3, 4, 150, 298, 299, 300} {
		for _, n := range []int{0, 1, 2, 3, 149, 150, 151, 298, 299, 300} {
			rows := list(api.Row{Cells: letters(n), Wrap: true}, api.Row{Cells: letters(n)})
			many := max((2*n+w-1)/w, 1)
			var want []api.Row
			for i := range many {
				there := min(2*n-i*w, w)
				want = append(want, api.Row{Cells: append(letters(there), gaps(w-there)...), Wrap: i < many-1})
			}
			marks := list(at(0, 0), at(1, 0), at(1, max(n-1, 0)))
			moved := list(at(0, 0), at(n/w, n%w), at(0, 0))
			if n > 0 {
				moved[2] = at((2*n-1)/w, (2*n-1)%w)
			}
			checkReflow(t, "long rows", rows, w, marks, want, moved)
		}
	}
	full := api.Row{Cells: slices.Repeat(wide('界', 7), 150)}
	first := api.Row{Cells: append(slices.Repeat(wide('界', 7), 149), of(0, 1, 0)), Wrap: true}
	second := api.Row{Cells: append(wide('界', 7), gaps(297)...)}
	checkReflow(t, "150 wide signs", list(full), 299, list(at(0, 298), at(0, 299), at(0, 300)), list(first, second), list(at(1, 0), at(1, 0), at(1, 2)))
	checkReflow(t, "and back", list(first, second), 300, list(at(0, 298), at(1, 1), at(1, 2), at(1, 3)), list(full), list(at(0, 298), at(0, 298), at(0, 300), at(0, 299)))
}

// P11.1: a row may have 300 cells, not one more.
func TestRowsTooLong(t *testing.T) {
	long := func(n int) api.Row { return api.Row{Cells: letters(n), Wrap: true} }
	a := read("a|")
	checkReflow(t, "301 cells", list(a, long(301), a), 2, list(at(1, 200), at(2, 0)), readAll("a./a."), list(at(0, 1), at(1, 0)))
	checkReflow(t, "301 cells alone", list(long(301)), 300, list(at(0, 9)), list(api.Row{Cells: gaps(300)}), list(at(0, 0)))
	got, _ := reflow.Rows(list(a, long(300), a), 2)
	if len(got) != 151 {
		t.Fatalf("300 cells between two: %d rows", len(got))
	}
}

// P11.1, P0.4: of no rows there are no rows, and each mark is zero; a nil list is as an empty one.
func TestNoRows(t *testing.T) {
	for _, w := range []int{2, 3, 80, 299, 300} {
		for _, rows := range [][]api.Row{nil, {}, make([]api.Row, 0, 5)} {
			checkReflow(t, "no rows", rows, w, nil, nil, nil)
			checkReflow(t, "no rows", rows, w, list(at(0, 0), at(-1, 3), at(5, 1)), nil, list(at(0, 0), at(0, 0), at(0, 0)))
		}
	}
	for _, cells := range [][]api.Cell{nil, {}, make([]api.Cell, 0, 5)} {
		rows := list(read("abc"), api.Row{Cells: cells, Wrap: true}, api.Row{Cells: cells})
		checkReflow(t, "no cells", rows, 2, list(at(1, 0), at(2, 3)), readAll("ab|/c./.."), list(at(2, 0), at(2, 0)))
		if !reflow.Same(rows, readAll("abc/")) || !reflow.Same(rows[1:], list(api.Row{})) {
			t.Fatal("no cells: not the same")
		}
	}
	for _, marks := range [][]api.Pos{nil, {}, make([]api.Pos, 0, 5)} {
		checkReflow(t, "no marks", readAll("abc"), 2, marks, readAll("ab|/c."), nil)
	}
}

// sames are rows, and rows of which is known whether they are the same lines.
func sames() []struct {
	a, b string
	want bool
} {
	return []struct {
		a, b string
		want bool
	}{
		// Equal rows.
		{"abc", "abc", true}, {"a中|/b/...", "a中|/b/...", true}, {"", "", true}, {">|/a", ">|/a", true},
		// Other widths, the same lines.
		{"abc|/de.", "ab|/cd|/e.", true}, {"abcdef", "a|/b|/c|/d|/e|/f", true}, {"ab_|/中.", "ab中", true}, {"ab/cd", "a|/b/c|/d", true}, {"a_|/中|/b.", "a中b", true}, {"_a", "a", true},
		// Rows without cells and rows that may not be are nothing of a line.
		{"ab|/|/c", "abc", true}, {"ab|/>", "ab", true}, {">|/a", "/a", true}, {"a|/>|/b", "a/b", true}, {"a|/>/b", "ab", false},
		// Blanks at a line's end are none of it, those elsewhere are.
		{"abc", "abc....", true}, {"abc|/...", "abc", true}, {"...", "", true}, {"a./b.", "a/b...", true}, {".a", "a", false}, {"a.b", "ab", false}, {"a.|/b", "a|/b", false}, {"a.b", "a..b", false}, {"a..|/b", "a|/..b", true},
		// A sign, a width, an attribute.
		{"abc", "abd", false}, {"abc", "xbc", false}, {"abc", "ab", false}, {"中", "国", false}, {"中", "a", false}, {"中", "a>", false}, {"a", "A", false}, {"A", "a", false}, {"~", ".", false}, {"a~", "a", false}, {"a~.", "a~", true},
		// How many lines there are, where they end, their order.
		{"a/b", "ab", false}, {"a/b", "a|/b", false}, {"a", "a/", false}, {"a", "/a", false}, {"/", "", false}, {"a../...", "a..", false}, {"ab/c", "a/bc", false}, {"a/b", "b/a", false}, {"a/b", "a/b/c", false}, {"a/b/c", "a/b/d", false}, {"x/b", "y/b", false},
		// The last row ends its line, whatever its Wrap.
		{"abc|", "abc", true}, {"a/b|", "a/b", true}, {"a|/b|", "ab", true},
	}
}

// checkSame holds Same of a and b, and of b and a, against what is wanted, and that they stay.
func checkSame(t *testing.T, name string, a, b []api.Row, want bool) {
	t.Helper()
	one, other := ownRows(a), ownRows(b)
	if reflow.Same(one, other) != want || reflow.Same(other, one) != want {
		t.Fatalf("%s: Same of %v and %v is not %v", name, thinned(a), thinned(b), want)
	}
	if !slices.EqualFunc(one, a, same) || !slices.EqualFunc(other, b, same) {
		t.Fatalf("%s: what is handed in is changed", name)
	}
}

// P11.1: Same of rows that are written out.
func TestSame(t *testing.T) {
	for _, x := range sames() {
		a, b := readAll(x.a), readAll(x.b)
		checkSame(t, x.a+" and "+x.b, a, b, x.want)
		checkSame(t, "of one list", a, a, true)
	}
}

// P11.1: each field of a cell counts, in each place of it.
func TestSameCellByCell(t *testing.T) {
	rows := readAll("ab|/c国/de")
	for i, r := range rows {
		for col, c := range r.Cells {
			if c.W != 1 {
				continue
			}
			for _, other := range list(of('x', 1, c.A), of(c.R, 1, 1), of(c.R, 1, 255), of(' ', 1, 3)) {
				changed := ownRows(rows)
				changed[i].Cells[col] = other
				checkSame(t, "a changed cell", rows, changed, false)
			}
		}
	}
	changed := ownRows(rows)
	copy(changed[1].Cells[1:], wide('国', 9))
	checkSame(t, "an attribute of a wide sign", rows, changed, false)
}

// P11.1: lines that are longer than a row may be count to their end.
func TestSameOfLongLines(t *testing.T) {
	long := func(n int, wrap bool) api.Row { return api.Row{Cells: letters(n), Wrap: wrap} }
	rows := list(long(300, true), long(300, true), read("b"))
	checkSame(t, "rows of other lengths", rows, list(long(1, true), long(299, true), long(300, true), read("b.")), true)
	checkSame(t, "two lines", rows, list(long(300, true), long(300, false), read("b")), false)
	checkSame(t, "another cell at the end", rows, list(long(300, true), long(300, true), read("c")), false)
	checkSame(t, "a cell more", rows, list(long(300, true), long(300, true), read("bb")), false)
	checkSame(t, "rows that are too long", list(long(301, true), read("b")), list(long(301, false), read("b")), true)
	checkSame(t, "rows that are too long", list(long(301, true), read("b")), list(long(300, true), read("ab")), false)
}

// P11.1, P0.4: no rows are the same as no rows, and not as a row without cells.
func TestSameOfNoRows(t *testing.T) {
	none := [][]api.Row{nil, {}, make([]api.Row, 0, 5)}
	for _, a := range none {
		for _, b := range none {
			checkSame(t, "no rows", a, b, true)
		}
		for _, s := range []string{"", "|", "...", ">", "_", "a", "/"} {
			checkSame(t, "no rows", a, readAll(s), false)
		}
	}
	if !reflow.Same(nil, nil) || reflow.Same(nil, list(api.Row{})) || reflow.Same(list(api.Row{}), nil) {
		t.Fatal("nil")
	}
}
