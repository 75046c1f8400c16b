package line_test

import (
	"math"
	"slices"
	"strings"
	"testing"

	"rotulus/api"
	"rotulus/cell"
	"rotulus/line"
	"rotulus/pack"
)

// of is a cell in short.
func of(r rune, w, a int) api.Cell { return api.Cell{R: r, W: w, A: a} }

// wide are the cells of a wide sign.
func wide(r rune, a int) []api.Cell { return []api.Cell{of(r, 2, a), of(0, 0, a)} }

// gaps are n Blanks.
func gaps(n int) []api.Cell { return slices.Repeat([]api.Cell{of(' ', 1, 0)}, n) }

// letters are n alike cells.
func letters(n int) []api.Cell { return slices.Repeat([]api.Cell{of('a', 1, 0)}, n) }

// join puts lists one behind the other.
func join[T any](parts ...[]T) []T { return slices.Concat(parts...) }

// list is a list of what is handed in.
func list[T any](all ...T) []T { return all }

// at and spot are places in short.
func at(row, col int) api.Pos           { return api.Pos{Row: row, Col: col} }
func spot(line, off, past int) api.Spot { return api.Spot{Line: line, Off: off, Past: past} }

// read makes a row of a text: . is a Blank, ~ a blank with the attribute 7, _ a Pad, 中 and 国 a wide sign (two cells), 界 one with the attribute 7, < a first half alone, > a second one, a capital one with the attribute 255, | at the end Wrap.
func read(s string) api.Row {
	var r api.Row
	for _, x := range s {
		switch {
		case x == '.':
			r.Cells = append(r.Cells, of(' ', 1, 0))
		case x == '~':
			r.Cells = append(r.Cells, of(' ', 1, 7))
		case x == '_':
			r.Cells = append(r.Cells, of(0, 1, 0))
		case x == '中' || x == '国':
			r.Cells = append(r.Cells, wide(x, 0)...)
		case x == '界':
			r.Cells = append(r.Cells, wide(x, 7)...)
		case x == '<':
			r.Cells = append(r.Cells, of('中', 2, 0))
		case x == '>':
			r.Cells = append(r.Cells, of(0, 0, 0))
		case x == '|':
			r.Wrap = true
		case 'A' <= x && x <= 'Z':
			r.Cells = append(r.Cells, of(x, 1, 255))
		default:
			r.Cells = append(r.Cells, of(x, 1, 0))
		}
	}
	return r
}

// readAll makes rows of a text, with a / between two.
func readAll(s string) []api.Row {
	var out []api.Row
	for _, x := range strings.Split(s, "/") {
		out = append(out, read(x))
	}
	return out
}

// readLine makes a line of a text as read has it, without the second halves.
func readLine(s string) []api.Cell {
	return slices.DeleteFunc(read(s).Cells, func(c api.Cell) bool { return c.W == 0 })
}

// readLines makes lines of a text, with a / between two.
func readLines(s string) [][]api.Cell {
	var out [][]api.Cell
	for _, x := range strings.Split(s, "/") {
		out = append(out, readLine(x))
	}
	return out
}

// same says whether a and b are the same row, without asking the program.
func same(a, b api.Row) bool { return a.Wrap == b.Wrap && slices.Equal(a.Cells, b.Cells) }

// sameLine says whether a and b are the same line.
func sameLine(a, b []api.Cell) bool { return slices.Equal(a, b) }

// ownRows are rows that share nothing with l.
func ownRows(l []api.Row) []api.Row {
	var out []api.Row
	for _, r := range l {
		out = append(out, api.Row{Cells: slices.Clone(r.Cells), Wrap: r.Wrap})
	}
	return out
}

// ownLines are lines that share nothing with ls.
func ownLines(ls [][]api.Cell) [][]api.Cell {
	var out [][]api.Cell
	for _, l := range ls {
		out = append(out, slices.Clone(l))
	}
	return out
}

// thinned are the beginnings of lists, to be told where a test fails.
func thinned(ls [][]api.Cell) [][]api.Cell {
	out := slices.Clone(ls[:min(len(ls), 6)])
	for i, l := range out {
		out[i] = l[:min(len(l), 12)]
	}
	return out
}

// thinnedRows are likewise of rows.
func thinnedRows(rows []api.Row) []api.Row {
	out := slices.Clone(rows[:min(len(rows), 6)])
	for i, r := range out {
		out[i].Cells = r.Cells[:min(len(r.Cells), 12)]
	}
	return out
}

// checkLines holds lines that were told against the ones that are wanted.
func checkLines(t *testing.T, name string, got, want [][]api.Cell) {
	t.Helper()
	if !slices.EqualFunc(got, want, sameLine) {
		t.Fatalf("%s: %d lines %v, not %d lines %v", name, len(got), thinned(got), len(want), thinned(want))
	}
}

// checkRows holds rows that were told against the ones that are wanted, and that they may be.
func checkRows(t *testing.T, name string, got, want []api.Row) {
	t.Helper()
	if !slices.EqualFunc(got, want, same) {
		t.Fatalf("%s: %d rows %v, not %d rows %v", name, len(got), thinnedRows(got), len(want), thinnedRows(want))
	}
	for _, r := range got {
		if !pack.May(r) {
			t.Fatalf("%s: a row that may not be: %v", name, r)
		}
	}
}

// checkJoin holds Join and Each of rows against what is wanted, and that rows stay.
func checkJoin(t *testing.T, name string, rows []api.Row, want [][]api.Cell) {
	t.Helper()
	handed := ownRows(rows)
	checkLines(t, name+", Join", line.Join(handed), want)
	each := line.Each(handed)
	checkEach(t, name, each, want)
	checkEach(t, name+", once more", each, want)
	if !slices.EqualFunc(handed, rows, same) {
		t.Fatalf("%s: what is handed in is changed", name)
	}
}

// checkEach holds that each goes through want, with numbers from 0 on.
func checkEach(t *testing.T, name string, each func(func(int, []api.Cell) bool), want [][]api.Cell) {
	t.Helper()
	var got [][]api.Cell
	for number, l := range each {
		if number != len(got) {
			t.Fatalf("%s, Each: the number %d, not %d", name, number, len(got))
		}
		got = append(got, l)
	}
	checkLines(t, name+", Each", got, want)
}

// joins are rows, and the lines that they are; of nothing there is one line without cells.
func joins() map[string]string {
	return map[string]string{
		// One row.
		"": "", "a": "a", "abc": "abc", "|": "", "abc|": "abc", "...": "", "...|": "", "_": "", "_|": "",
		// None goes on, all do, some do, the last one does.
		"a/b": "a/b", "abc/def/ghi": "abc/def/ghi", "abc|/def|/ghi|": "abcdefghi", "abc|/def|/ghi": "abcdefghi",
		"abc|/def/ghi": "abcdef/ghi", "abc/def|/ghi": "abc/defghi", "abc/def|/ghi|": "abc/defghi", "a|/b/c|/d/e": "ab/cd/e", "abc/def|": "abc/def",
		// Rows of any length, and without cells.
		"ab|/cdef|/g": "abcdefg", "/": "/", "//": "//", "|/": "", "|/|": "", "|/|/": "", "/|": "/", "|//": "/", "a//b": "a//b", "a|//b": "a/b", "a|/|/b": "ab", "|/a": "a", "/a": "/a", "a/": "a/", "a|/": "a", "a/|/b": "a/b",
		// Rows of Blanks alone, ahead of others, between and behind.
		".../...": "/", ".../a..": "/a", "...|/a..": "...a", "a../...": "a/", "a../.../b..": "a//b", "a..|/...|/b..": "a.....b", "a..|/.../b..": "a/b", "a../...|/b..": "a/...b", "...|/...|/...|": "", "...|/...|/..b": "........b", ".../.../...|": "//", "a|/...|/...": "a",
		// Blanks at the end of a row that goes on stay, those at the whole end don't.
		"ab.|/c..": "ab.c", "ab.": "ab", "ab.|": "ab", "a.b.": "a.b", "ab.|/...": "ab", "...a": "...a", ".a.|/.b.|/.c.": ".a..b..c", "a.": "a", "a..|/|/..": "a", "a..|/|/..b": "a....b",
		// Pads, in the last col and elsewhere: they are none of the line, nor do they keep Blanks.
		"ab_|/中c": "ab中c", "a_b": "ab", "_a_": "a", "___": "", "___|/a": "a", "a_": "a", "a._": "a", "a_.": "a", "a._._.": "a", "a._b": "a.b", "a|/_": "a", "a.|/_": "a", "a.|/_._|/b": "a..b", "_/_": "/",
		// Wide signs.
		"中": "中", "中国": "中国", "中|/国": "中国", "a中|/国b": "a中国b", "中.": "中", ".中": ".中", "中.|/.国": "中..国", "中_|/国_": "中国", "ab_|/中_|/国c_": "ab中国c",
		// A blank with an attribute is no Blank; attributes stay.
		"~": "~", "a~": "a~", "a~.": "a~", "a.~": "a.~", "~~~|/...": "~~~", "...|/~..": "...~", "~|/~": "~~", "A": "A", "界": "界", "A界|/B~": "A界B~", "A.|/界.": "A.界",
		// Rows that may not be: no cells, no Wrap.
		"<": "", ">": "", "<|": "", ">|": "", "ab|/>|/cd": "ab/cd", "ab|/<|/cd": "ab/cd", "ab/>|/cd": "ab//cd", "ab|/>/cd": "ab/cd", "a..|/>|/..b": "a/..b", ">|/ab": "/ab", "ab|/>": "ab", "ab|/>|": "ab", ">|/>|/>|": "//", "a|/b>|/c|/d": "a/cd", "a|/<b|/c|/d": "a/cd", "中|/中>|/国": "中/国", "ab|/|/>|/cd": "ab/cd", "ab|/|/c<|/d|/e": "ab/de",
	}
}

// P10.1: Join and Each of rows that are written out.
func TestJoin(t *testing.T) {
	for rows, want := range joins() {
		checkJoin(t, rows, readAll(rows), readLines(want))
	}
}

// P10.1: of no rows there are no lines.
func TestJoinOfNone(t *testing.T) {
	for _, rows := range [][]api.Row{nil, {}, make([]api.Row, 0, 5)} {
		checkJoin(t, "no rows", rows, nil)
	}
}

// P10.1: a row may have 300 cells, not one more; a line any number.
func TestJoinOfLongRows(t *testing.T) {
	long := func(n int) api.Row { return api.Row{Cells: letters(n), Wrap: true} }
	a := api.Row{Cells: letters(1), Wrap: true}
	checkJoin(t, "300 cells", list(a, long(300), a), list(letters(302)))
	checkJoin(t, "301 cells", list(a, long(301), a), list(letters(1), letters(1)))
	checkJoin(t, "301 cells first", list(long(301), a), list(nil, letters(1)))
	checkJoin(t, "301 cells last", list(a, long(301)), list(letters(1)))
	checkJoin(t, "301 cells between", list(long(299), long(301), long(300), long(2)), list(letters(299), letters(302)))
	checkJoin(t, "301 Blanks", list(a, api.Row{Cells: gaps(301), Wrap: true}, a), list(letters(1), letters(1)))
	checkJoin(t, "300 Blanks", list(a, api.Row{Cells: gaps(300), Wrap: true}, a), list(join(letters(1), gaps(300), letters(1))))
	checkJoin(t, "150 wide signs", list(api.Row{Cells: slices.Repeat(wide('中', 3), 150), Wrap: true}, a), list(join(slices.Repeat(list(of('中', 2, 3)), 150), letters(1))))
	checkJoin(t, "5000 rows", slices.Repeat(list(long(7)), 5000), list(letters(35000)))
	checkJoin(t, "5000 lines", slices.Repeat(list(api.Row{Cells: letters(7)}), 5000), slices.Repeat(list(letters(7)), 5000))
}

// cellsThatMayNot are cells that may not be, in a row or in a line.
func cellsThatMayNot() []api.Cell {
	return list(
		of('a', 2, 0), of('a', 0, 0), of('a', 3, 0), of('a', -1, 0), of('a', math.MaxInt, 0), of('a', math.MinInt, 0),
		of('a', 1, -1), of('a', 1, 256), of('a', 1, math.MaxInt), of('a', 1, math.MinInt), of('中', 1, 0), of('中', 2, 256),
		of(0, 1, 1), of(0, 2, 0), of(7, 1, 0), of(27, 1, 0), of(127, 1, 0), of(0x301, 1, 0), of(-1, 1, 0), of(0xD800, 1, 0), of(0x110000, 1, 0))
}

// P10.1: each cell that may not be makes its row one without cells, without Wrap.
func TestJoinOfCellsThatMayNot(t *testing.T) {
	x := read("x|")
	for _, c := range cellsThatMayNot() {
		bad := api.Row{Cells: list(of('a', 1, 0), c, of('b', 1, 0)), Wrap: true}
		checkJoin(t, "a row that may not be", list(x, bad, x), readLines("x/x"))
		checkJoin(t, "rows that may not be", list(bad, bad, x), readLines("//x"))
	}
	checkJoin(t, "halves of two attributes", list(x, api.Row{Cells: list(of('中', 2, 1), of(0, 0, 2)), Wrap: true}, x), readLines("x/x"))
}

// P10.1: Each ends where it is told to, by a loop that breaks, and goes from the beginning the next time.
func TestEachStops(t *testing.T) {
	rows := readAll("a../b..|/c../.../中_|/国/>|/x|")
	want := line.Join(rows)
	each := line.Each(rows)
	for stop := range len(want) {
		var got [][]api.Cell
		for number, l := range each {
			if number != len(got) {
				t.Fatalf("the number %d, not %d", number, len(got))
			}
			got = append(got, l)
			if number == stop {
				break
			}
		}
		checkLines(t, "stopped", got, want[:stop+1])
		asked := 0
		each(func(number int, l []api.Cell) bool {
			if asked++; number != asked-1 || !slices.Equal(l, want[number]) {
				t.Fatalf("stopped at %d: %d, %v", stop, number, l)
			}
			return number < stop
		})
		if asked != stop+1 {
			t.Fatalf("stopped at %d, and asked %d times", stop, asked)
		}
	}
	checkEach(t, "behind all stops", each, want)
}

// P10.1: loops over Each stand in one another, and none turns the other.
func TestEachInEach(t *testing.T) {
	rows := readAll("a/b|/c/d")
	want := readLines("a/bc/d")
	each := line.Each(rows)
	outer := 0
	for number, l := range each {
		checkEach(t, "the inner one", each, want)
		if number != outer || !slices.Equal(l, want[number]) {
			t.Fatalf("the outer one: %d, %v", number, l)
		}
		outer++
	}
	if outer != len(want) {
		t.Fatalf("the outer one goes through %d lines", outer)
	}
}

// P0.1: Each takes nil for whom it tells, and tells nothing then.
func TestEachOfNoOne(t *testing.T) {
	line.Each(nil)(nil)
	line.Each(readAll("a/b"))(nil)
}

// layouts are lines, and the rows that they are laid out in at a width.
func layouts() []struct {
	l    string
	w    int
	want string
} {
	return []struct {
		l    string
		w    int
		want string
	}{
		// No cells.
		{"", 2, ".."}, {"", 3, "..."}, {"", 7, "......."},
		// Narrow signs alone: as many as the width less one, the width, one more, twice it.
		{"a", 2, "a."}, {"ab", 2, "ab"}, {"abc", 2, "ab|/c."}, {"abcd", 2, "ab|/cd"}, {"abcde", 2, "ab|/cd|/e."},
		{"a", 3, "a.."}, {"ab", 3, "ab."}, {"abc", 3, "abc"}, {"abcd", 3, "abc|/d.."}, {"abcde", 3, "abc|/de."}, {"abcdef", 3, "abc|/def"}, {"abcdefg", 3, "abc|/def|/g.."}, {"abcdefghi", 3, "abc|/def|/ghi"},
		{"abc", 4, "abc."}, {"abcd", 4, "abcd"}, {"abcde", 4, "abcd|/e..."}, {"abcdefgh", 4, "abcd|/efgh"},
		// Wide ones, at the edge and elsewhere.
		{"中", 2, "中"}, {"中国", 2, "中|/国"}, {"a中", 2, "a_|/中"}, {"中a", 2, "中|/a."}, {"a中b", 2, "a_|/中|/b."}, {"a中b国", 2, "a_|/中|/b_|/国"}, {"ab中", 2, "ab|/中"}, {"a中国", 2, "a_|/中|/国"},
		{"中", 3, "中."}, {"中国", 3, "中_|/国."}, {"中国中", 3, "中_|/国_|/中."}, {"a中", 3, "a中"}, {"ab中", 3, "ab_|/中."}, {"abc中", 3, "abc|/中."}, {"中a国", 3, "中a|/国."}, {"a中国b", 3, "a中|/国b"}, {"中国b", 3, "中_|/国b"},
		{"中国", 4, "中国"}, {"中国中", 4, "中国|/中.."}, {"a中国", 4, "a中_|/国.."}, {"a中国b", 4, "a中_|/国b."}, {"ab中国", 4, "ab中|/国.."}, {"abc中", 4, "abc_|/中.."}, {"abcd中", 4, "abcd|/中.."}, {"a中b国", 4, "a中b|/国.."},
		// Blanks of a line are cells as others are, at its end too.
		{".", 2, ".."}, {"..", 2, ".."}, {"...", 2, "..|/.."}, {"a.", 2, "a."}, {"a..", 2, "a.|/.."}, {"a.b.", 2, "a.|/b."}, {"ab..c", 3, "ab.|/.c."}, {".中", 2, "._|/中"}, {"..中", 3, ".._|/中."},
		// Attributes, of both halves; none of a Pad or of the blanks behind the end.
		{"A", 3, "A.."}, {"~", 3, "~.."}, {"~~~~", 3, "~~~|/~.."}, {"界", 3, "界."}, {"AB界", 3, "AB_|/界."}, {"界界", 3, "界_|/界."}, {"A界B", 2, "A_|/界|/B."},
	}
}

// P10.1: Layout of lines that are written out.
func TestLayout(t *testing.T) {
	for _, x := range layouts() {
		l := readLine(x.l)
		checkRows(t, x.l, line.Layout(l, x.w), readAll(x.want))
		if !slices.Equal(l, readLine(x.l)) {
			t.Fatalf("%s: what is handed in is changed", x.l)
		}
	}
}

// widthsThatMayNot are widths that no row may have.
func widthsThatMayNot() []int {
	return list(math.MinInt, math.MinInt+1, -1<<32, -300, -2, -1, 0, 1, 301, 302, 600, 1<<32, 1<<32+80, math.MaxInt-1, math.MaxInt)
}

// P10.1: no width but 2 to 300.
func TestLayoutOfWidthsThatMayNot(t *testing.T) {
	for _, w := range widthsThatMayNot() {
		for _, l := range [][]api.Cell{nil, {}, letters(1), letters(301), readLine("中")} {
			if got := line.Layout(l, w); got != nil {
				t.Errorf("Layout of %d cells, %d wide: %v", len(l), w, thinnedRows(got))
			}
			if got := line.All(list(l, l), w); len(got) != 0 {
				t.Errorf("All of lines of %d cells, %d wide: %v", len(l), w, thinnedRows(got))
			}
		}
	}
}

// P10.1: lines of any length at the widest, the narrowest and those beside them.
func TestLayoutOfLongLines(t *testing.T) {
	for _, w := range []int{2, 3, 4, 80, 298, 299, 300} {
		for _, n := range []int{0, 1, 2, w - 1, w, w + 1, 2*w - 1, 2 * w, 2*w + 1, 299, 300, 301, 1000, 5003} {
			rows := line.Layout(letters(n), w)
			many := max((n+w-1)/w, 1)
			if len(rows) != many {
				t.Fatalf("%d cells, %d wide: %d rows, not %d", n, w, len(rows), many)
			}
			for i, r := range rows {
				there := min(n-i*w, w)
				want := api.Row{Cells: join(letters(there), gaps(w-there)), Wrap: i < many-1}
				checkRows(t, "a row", list(r), list(want))
			}
		}
	}
	signs := slices.Repeat(list(of('中', 2, 9)), 301)
	full := api.Row{Cells: slices.Repeat(wide('中', 9), 150), Wrap: true}
	checkRows(t, "wide signs, 300 wide", line.Layout(signs, 300), list(full, full, api.Row{Cells: join(wide('中', 9), gaps(298))}))
	padded := api.Row{Cells: join(slices.Repeat(wide('中', 9), 149), list(of(0, 1, 0))), Wrap: true}
	checkRows(t, "wide signs, 299 wide", line.Layout(signs, 299), list(padded, padded, api.Row{Cells: join(slices.Repeat(wide('中', 9), 3), gaps(293))}))
}

// noLines are lists of cells that are no line.
func noLines() [][]api.Cell {
	out := [][]api.Cell{wide('中', 0), wide('中', 0)[1:], {of(0, 1, 0)}, {{}}}
	for _, c := range append(cellsThatMayNot(), of(0, 1, 0), of(0, 0, 0), api.Cell{}) {
		out = append(out, list(c), list(of('a', 1, 0), c), list(c, of('a', 1, 0)), list(of('中', 2, 0), c, of('a', 1, 0)), join(letters(500), list(c)))
	}
	return out
}

// P10.1: what is no line is not laid out, and All leaves it out.
func TestLayoutOfNoLines(t *testing.T) {
	for _, l := range noLines() {
		for _, w := range []int{1, 2, 3, 80, 300, 301} {
			if got := line.Layout(l, w); got != nil {
				t.Fatalf("Layout of %v, %d wide: %v", thinned(list(l)), w, thinnedRows(got))
			}
		}
		checkRows(t, "All", line.All(list(l), 3), nil)
		checkRows(t, "All", line.All(list(l, letters(4), l, nil, l), 3), readAll("aaa|/a../..."))
	}
}

// P10.1: All of lines that are written out.
func TestAll(t *testing.T) {
	for _, x := range []struct {
		ls   string
		w    int
		want string
	}{
		{"", 2, ".."}, {"a", 2, "a."}, {"/", 2, "../.."}, {"//", 3, ".../.../..."}, {"a//b", 2, "a./../b."}, {"abc//d", 2, "ab|/c./../d."}, {"ab/cd", 2, "ab/cd"}, {"abc/abc", 3, "abc/abc"},
		{"a中/中a/国", 2, "a_|/中/中|/a./国"}, {"ab中/国国c", 3, "ab_|/中./国_|/国c"}, {"A/界~/B.", 3, "A../界~/B.."},
	} {
		checkRows(t, x.ls, line.All(readLines(x.ls), x.w), readAll(x.want))
	}
	for _, ls := range [][][]api.Cell{nil, {}, make([][]api.Cell, 0, 5)} {
		checkRows(t, "no lines", line.All(ls, 3), nil)
	}
	checkRows(t, "lines without cells", line.All([][]api.Cell{nil, {}, make([]api.Cell, 0, 5)}, 3), readAll(".../.../..."))
}

// P0.4: a nil list is as an empty one.
func TestNilLists(t *testing.T) {
	for _, l := range [][]api.Cell{nil, {}, make([]api.Cell, 0, 5)} {
		checkRows(t, "no cells", line.Layout(l, 4), readAll("...."))
		checkJoin(t, "no cells", list(api.Row{Cells: l}, api.Row{Cells: l, Wrap: true}, api.Row{Cells: l}), list[[]api.Cell](nil, nil))
		checkSpot(t, "no cells", list(read("a"), api.Row{Cells: l}), at(1, 5), spot(1, 0, 0))
		checkPlace(t, "no cells", list(letters(3), l), 2, spot(1, 0, 1), at(2, 1))
		checkPlace(t, "no cells", list(letters(3), l), 2, spot(1, 1, 0), at(0, 0))
	}
	for _, rows := range [][]api.Row{nil, {}, make([]api.Row, 0, 5)} {
		checkSpot(t, "no rows", rows, at(0, 0), spot(0, 0, 0))
		checkSpot(t, "no rows", rows, at(0, 3), spot(0, 0, 0))
	}
	for _, ls := range [][][]api.Cell{nil, {}, make([][]api.Cell, 0, 5)} {
		checkPlace(t, "no lines", ls, 2, spot(0, 0, 0), at(0, 0))
		checkPlace(t, "no lines", ls, 2, spot(0, 0, 1), at(0, 0))
	}
}

// P10.1: cells of a line keep their attributes and signs, of both widths, whatever they are.
func TestJoinKeepsCells(t *testing.T) {
	var row api.Row
	var want []api.Cell
	for a := range 256 {
		for _, r := range []rune{'x', 0xFFFD, 0x10FFFF, 0x4E2D, 0x1F600} {
			if len(row.Cells) > 290 {
				break
			}
			row.Cells = append(row.Cells, cell.Of(r, (a*37)%256)...)
			want = append(want, cell.Of(r, (a*37)%256)[0])
		}
	}
	checkJoin(t, "many signs", list(row), list(want))
	checkRows(t, "many signs", line.Layout(want, len(row.Cells)), list(row))
}
