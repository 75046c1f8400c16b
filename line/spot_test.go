package line_test

import (
	"math"
	"slices"
	"testing"

	"rotulus/api"
	"rotulus/line"
)

// checkSpot holds Spot against what is wanted, and that rows stay.
func checkSpot(t *testing.T, name string, rows []api.Row, p api.Pos, want api.Spot) {
	t.Helper()
	handed := ownRows(rows)
	if got := line.Spot(handed, p); got != want {
		t.Fatalf("%s: Spot of %v is %v, not %v", name, p, got, want)
	}
	if !slices.EqualFunc(handed, rows, same) {
		t.Fatalf("%s: Spot of %v changes what is handed in", name, p)
	}
}

// checkPlace holds Place against what is wanted, and that lines stay.
func checkPlace(t *testing.T, name string, ls [][]api.Cell, w int, s api.Spot, want api.Pos) {
	t.Helper()
	handed := ownLines(ls)
	if got := line.Place(handed, w, s); got != want {
		t.Fatalf("%s: Place of %v, %d wide, is %v, not %v", name, s, w, got, want)
	}
	if !slices.EqualFunc(handed, ls, sameLine) {
		t.Fatalf("%s: Place of %v changes what is handed in", name, s)
	}
}

// spots are rows with what Spot tells of each Col of one of them, from 0 on; beyond the last one it is told alike.
func spots() []struct {
	rows string
	row  int
	want []api.Spot
} {
	return []struct {
		rows string
		row  int
		want []api.Spot
	}{
		// One row; behind the last cell.
		{"abc", 0, list(spot(0, 0, 0), spot(0, 1, 0), spot(0, 2, 0), spot(0, 3, 0))},
		// Rows of one line, of several.
		{"abc|/de", 0, list(spot(0, 0, 0), spot(0, 1, 0), spot(0, 2, 0), spot(0, 3, 0))},
		{"abc|/de", 1, list(spot(0, 3, 0), spot(0, 4, 0), spot(0, 5, 0))},
		{"abc/de", 1, list(spot(1, 0, 0), spot(1, 1, 0), spot(1, 2, 0))},
		{"a|/b|/cd", 2, list(spot(0, 2, 0), spot(0, 3, 0), spot(0, 4, 0))},
		{"a|/b/c|/d/e|/fg|", 5, list(spot(2, 1, 0), spot(2, 2, 0), spot(2, 3, 0))},
		// Each half of a wide sign, and behind it.
		{"a中b", 0, list(spot(0, 0, 0), spot(0, 1, 0), spot(0, 1, 0), spot(0, 2, 0), spot(0, 3, 0))},
		{"中国", 0, list(spot(0, 0, 0), spot(0, 0, 0), spot(0, 1, 0), spot(0, 1, 0), spot(0, 2, 0))},
		{"x/中|/国界", 2, list(spot(1, 1, 0), spot(1, 1, 0), spot(1, 2, 0), spot(1, 2, 0), spot(1, 3, 0))},
		// A Pad is as what stands behind it.
		{"ab_|/中c", 0, list(spot(0, 0, 0), spot(0, 1, 0), spot(0, 2, 0), spot(0, 2, 0))},
		{"ab_|/中c", 1, list(spot(0, 2, 0), spot(0, 2, 0), spot(0, 3, 0), spot(0, 4, 0))},
		{"_a_b_", 0, list(spot(0, 0, 0), spot(0, 0, 0), spot(0, 1, 0), spot(0, 1, 0), spot(0, 2, 0), spot(0, 2, 0))},
		{"__", 0, list(spot(0, 0, 0), spot(0, 0, 0), spot(0, 0, 0))},
		{"a.._.", 0, list(spot(0, 0, 0), spot(0, 1, 0), spot(0, 1, 1), spot(0, 1, 2), spot(0, 1, 2), spot(0, 1, 3))},
		// Blanks behind the line's end: in its last row, and in rows ahead of it.
		{"a..", 0, list(spot(0, 0, 0), spot(0, 1, 0), spot(0, 1, 1), spot(0, 1, 2))},
		{"...", 0, list(spot(0, 0, 0), spot(0, 0, 1), spot(0, 0, 2), spot(0, 0, 3))},
		{"a/...", 1, list(spot(1, 0, 0), spot(1, 0, 1), spot(1, 0, 2), spot(1, 0, 3))},
		{"abc|/d..", 1, list(spot(0, 3, 0), spot(0, 4, 0), spot(0, 4, 1), spot(0, 4, 2))},
		{"a..|/...", 0, list(spot(0, 0, 0), spot(0, 1, 0), spot(0, 1, 1), spot(0, 1, 2))},
		{"a..|/...", 1, list(spot(0, 1, 2), spot(0, 1, 3), spot(0, 1, 4), spot(0, 1, 5))},
		{"x/a..|/...|/..|", 2, list(spot(1, 1, 2), spot(1, 1, 3), spot(1, 1, 4), spot(1, 1, 5))},
		{"x/a..|/...|/..|", 3, list(spot(1, 1, 5), spot(1, 1, 6), spot(1, 1, 7))},
		// Blanks that a sign follows are the line's.
		{"a..|/..b", 0, list(spot(0, 0, 0), spot(0, 1, 0), spot(0, 2, 0), spot(0, 3, 0))},
		{"a..|/..b", 1, list(spot(0, 3, 0), spot(0, 4, 0), spot(0, 5, 0), spot(0, 6, 0))},
		{"a..|/..~.", 1, list(spot(0, 3, 0), spot(0, 4, 0), spot(0, 5, 0), spot(0, 6, 0), spot(0, 6, 1))},
		{"a~.", 0, list(spot(0, 0, 0), spot(0, 1, 0), spot(0, 2, 0), spot(0, 2, 1))},
		// Rows without cells.
		{"", 0, list(spot(0, 0, 0))},
		{"/|/", 2, list(spot(1, 0, 0))},
		{"ab|//c", 1, list(spot(0, 2, 0))},
		{"a.|//c", 1, list(spot(0, 1, 1))},
		{"a.|/|/c", 1, list(spot(0, 2, 0))},
		// Rows that may not be.
		{">|/b", 0, list(spot(0, 0, 0))},
		{">|/b", 1, list(spot(1, 0, 0), spot(1, 1, 0))},
		{"ab|/c<|/d", 1, list(spot(0, 2, 0))},
		{"ab|/c<|/d", 2, list(spot(1, 0, 0), spot(1, 1, 0))},
		{"a..|/c>|/d", 1, list(spot(0, 1, 2))},
		{"a../c>|/d", 1, list(spot(1, 0, 0))},
	}
}

// P10.2: Spot at each Col, and at the nearer end for those below 0 and beyond the last one.
func TestSpot(t *testing.T) {
	for _, x := range spots() {
		rows := readAll(x.rows)
		for col, want := range x.want {
			checkSpot(t, x.rows, rows, at(x.row, col), want)
		}
		for _, col := range []int{math.MinInt, math.MinInt + 1, -1 << 32, -300, -2, -1} {
			checkSpot(t, x.rows, rows, at(x.row, col), x.want[0])
		}
		last := len(x.want) - 1
		for _, col := range []int{last + 1, last + 2, last + 300, 1 << 32, math.MaxInt - 1, math.MaxInt} {
			checkSpot(t, x.rows, rows, at(x.row, col), x.want[last])
		}
	}
}

// P10.2: of a row that there is none Spot is zero.
func TestSpotOfNoRow(t *testing.T) {
	for _, texts := range []string{"a", "a/bc|/d", "a|/b|", "...", ">", ""} {
		rows := readAll(texts)
		for _, row := range []int{math.MinInt, math.MinInt + 1, -1 << 32, -2, -1, len(rows), len(rows) + 1, 1 << 32, math.MaxInt - 1, math.MaxInt} {
			for _, col := range []int{math.MinInt, -1, 0, 1, 2, math.MaxInt} {
				checkSpot(t, texts, rows, at(row, col), spot(0, 0, 0))
			}
		}
	}
}

// P10.2: a row of 301 cells has none.
func TestSpotOfLongRows(t *testing.T) {
	long := func(n int) api.Row { return api.Row{Cells: letters(n), Wrap: true} }
	rows := list(long(300), long(301), long(300), long(300))
	for p, want := range map[api.Pos]api.Spot{
		at(0, 299): spot(0, 299, 0), at(0, 300): spot(0, 300, 0), at(0, 301): spot(0, 300, 0),
		at(1, 0): spot(0, 300, 0), at(1, 200): spot(0, 300, 0), at(1, 301): spot(0, 300, 0),
		at(2, 0): spot(1, 0, 0), at(2, 300): spot(1, 300, 0), at(3, 0): spot(1, 300, 0), at(3, 300): spot(1, 600, 0),
	} {
		checkSpot(t, "long rows", rows, p, want)
	}
}

// places are lines with what Place tells, at a width, of each Off of one of them, from 0 up to its length.
func places() []struct {
	ls   string
	w    int
	line int
	want []api.Pos
} {
	return []struct {
		ls   string
		w    int
		line int
		want []api.Pos
	}{
		// No cells: the end is the beginning.
		{"", 2, 0, list(at(0, 0))}, {"//", 2, 2, list(at(2, 0))}, {"abc/", 2, 1, list(at(2, 0))},
		// One row, full or not.
		{"a", 2, 0, list(at(0, 0), at(0, 1))}, {"ab", 2, 0, list(at(0, 0), at(0, 1), at(0, 2))}, {"abc", 300, 0, list(at(0, 0), at(0, 1), at(0, 2), at(0, 3))},
		// Rows, the last one full or not.
		{"abc", 2, 0, list(at(0, 0), at(0, 1), at(1, 0), at(1, 1))}, {"abcd", 2, 0, list(at(0, 0), at(0, 1), at(1, 0), at(1, 1), at(1, 2))},
		{"abcde", 3, 0, list(at(0, 0), at(0, 1), at(0, 2), at(1, 0), at(1, 1), at(1, 2))}, {"abcdef", 3, 0, list(at(0, 0), at(0, 1), at(0, 2), at(1, 0), at(1, 1), at(1, 2), at(1, 3))},
		// Lines ahead, of one row, of none that is not full, of several.
		{"a/b", 2, 1, list(at(1, 0), at(1, 1))}, {"ab/b", 2, 1, list(at(1, 0), at(1, 1))}, {"abc/b", 2, 1, list(at(2, 0), at(2, 1))}, {"abcd//ab/x", 2, 3, list(at(4, 0), at(4, 1))}, {"a中b国/中/xy", 2, 2, list(at(5, 0), at(5, 1), at(5, 2))}, {"a/b", 2, 0, list(at(0, 0), at(0, 1))},
		// Wide signs: at the edge they stand in the next row.
		{"中", 2, 0, list(at(0, 0), at(0, 2))}, {"中", 3, 0, list(at(0, 0), at(0, 2))}, {"中国", 2, 0, list(at(0, 0), at(1, 0), at(1, 2))}, {"中国", 3, 0, list(at(0, 0), at(1, 0), at(1, 2))}, {"中国", 4, 0, list(at(0, 0), at(0, 2), at(0, 4))},
		{"a中b", 2, 0, list(at(0, 0), at(1, 0), at(2, 0), at(2, 1))}, {"a中b", 3, 0, list(at(0, 0), at(0, 1), at(1, 0), at(1, 1))}, {"ab中c", 3, 0, list(at(0, 0), at(0, 1), at(1, 0), at(1, 2), at(1, 3))}, {"abc中", 3, 0, list(at(0, 0), at(0, 1), at(0, 2), at(1, 0), at(1, 2))}, {"abc中国", 4, 0, list(at(0, 0), at(0, 1), at(0, 2), at(1, 0), at(1, 2), at(1, 4))},
		{"x/ab中c", 3, 1, list(at(1, 0), at(1, 1), at(2, 0), at(2, 2), at(2, 3))},
		// Blanks of a line are cells as others are, at its end too.
		{"a..", 2, 0, list(at(0, 0), at(0, 1), at(1, 0), at(1, 1))}, {"a.../b", 2, 1, list(at(2, 0), at(2, 1))},
	}
}

// P10.2: Place of each Off, and zero below 0 and above the length; Past counts at the length alone.
func TestPlace(t *testing.T) {
	for _, x := range places() {
		ls := readLines(x.ls)
		end := len(x.want) - 1
		for off, want := range x.want {
			checkPlace(t, x.ls, ls, x.w, spot(x.line, off, 0), want)
			if off < end {
				for _, past := range []int{1, 2, 300, math.MaxInt} {
					checkPlace(t, x.ls, ls, x.w, spot(x.line, off, past), want)
				}
			}
			for _, past := range []int{-1, -2, math.MinInt} {
				checkPlace(t, x.ls, ls, x.w, spot(x.line, off, past), at(0, 0))
			}
		}
		for _, off := range []int{math.MinInt, math.MinInt + 1, -1 << 32, -2, -1, end + 1, end + 2, end + 300, 1 << 32, math.MaxInt - 1, math.MaxInt} {
			checkPlace(t, x.ls, ls, x.w, spot(x.line, off, 0), at(0, 0))
			checkPlace(t, x.ls, ls, x.w, spot(x.line, off, 1), at(0, 0))
		}
		for _, w := range widthsThatMayNot() {
			checkPlace(t, x.ls, ls, w, spot(x.line, end, 0), at(0, 0))
			checkPlace(t, x.ls, ls, w, spot(x.line, end, 1), at(0, 0))
		}
	}
}

// P10.2: Past goes on behind the last cell, up to the last col; from behind a full row back to it.
func TestPlacePast(t *testing.T) {
	for _, x := range []struct {
		ls   string
		w    int
		s    api.Spot
		want []api.Pos
	}{
		{"", 2, spot(0, 0, 0), list(at(0, 0), at(0, 1), at(0, 1))},
		{"", 4, spot(0, 0, 0), list(at(0, 0), at(0, 1), at(0, 2), at(0, 3), at(0, 3))},
		{"a", 4, spot(0, 1, 0), list(at(0, 1), at(0, 2), at(0, 3), at(0, 3))},
		{"abc", 4, spot(0, 3, 0), list(at(0, 3), at(0, 3))},
		{"abcd", 4, spot(0, 4, 0), list(at(0, 4), at(0, 3))},
		{"abcde", 4, spot(0, 5, 0), list(at(1, 1), at(1, 2), at(1, 3), at(1, 3))},
		{"abcdefgh", 4, spot(0, 8, 0), list(at(1, 4), at(1, 3))},
		{"中", 2, spot(0, 1, 0), list(at(0, 2), at(0, 1))},
		{"中", 4, spot(0, 1, 0), list(at(0, 2), at(0, 3), at(0, 3))},
		{"abc中", 4, spot(0, 4, 0), list(at(1, 2), at(1, 3), at(1, 3))},
		{"x/abcde/", 3, spot(1, 5, 0), list(at(2, 2), at(2, 2))},
		{"x/abcde/", 3, spot(2, 0, 0), list(at(3, 0), at(3, 1), at(3, 2), at(3, 2))},
		{"a.", 4, spot(0, 2, 0), list(at(0, 2), at(0, 3), at(0, 3))},
	} {
		ls := readLines(x.ls)
		for past, want := range x.want {
			checkPlace(t, x.ls, ls, x.w, spot(x.s.Line, x.s.Off, past), want)
		}
		for _, past := range []int{len(x.want), 300, 301, 1 << 32, math.MaxInt - 300, math.MaxInt - 2, math.MaxInt - 1, math.MaxInt} {
			checkPlace(t, x.ls, ls, x.w, spot(x.s.Line, x.s.Off, past), x.want[len(x.want)-1])
		}
	}
	checkPlace(t, "299 cells", list(letters(299)), 300, spot(0, 299, 1), at(0, 299))
	checkPlace(t, "300 cells", list(letters(300)), 300, spot(0, 300, 0), at(0, 300))
	checkPlace(t, "300 cells", list(letters(300)), 300, spot(0, 300, 1), at(0, 299))
	checkPlace(t, "no cells", list(letters(0)), 300, spot(0, 0, 298), at(0, 298))
	checkPlace(t, "no cells", list(letters(0)), 300, spot(0, 0, math.MaxInt), at(0, 299))
}

// P10.2: of a line that there is none Place is zero.
func TestPlaceOfNoLine(t *testing.T) {
	for _, texts := range []string{"", "a", "ab/c", "//"} {
		ls := readLines(texts)
		for _, number := range []int{math.MinInt, math.MinInt + 1, -1 << 32, -2, -1, len(ls), len(ls) + 1, 1 << 32, math.MaxInt - 1, math.MaxInt} {
			for _, s := range []api.Spot{spot(number, 0, 0), spot(number, 0, 1), spot(number, 1, 0), spot(number, -1, 0)} {
				checkPlace(t, texts, ls, 2, s, at(0, 0))
			}
		}
	}
}

// P10.2: a list that is no line has no rows, as of All: nothing stands in it, and it takes no room ahead of others.
func TestPlaceWithNoLines(t *testing.T) {
	for _, l := range noLines() {
		ls := list(letters(3), l, letters(1), l)
		for off := range len(l) + 1 {
			checkPlace(t, "no line", ls, 2, spot(1, off, 0), at(0, 0))
			checkPlace(t, "no line", ls, 2, spot(1, off, 1), at(0, 0))
		}
		checkPlace(t, "ahead of no line", ls, 2, spot(0, 2, 0), at(1, 0))
		checkPlace(t, "behind no line", ls, 2, spot(2, 0, 0), at(2, 0))
		checkPlace(t, "behind no line", ls, 2, spot(2, 1, 1), at(2, 1))
	}
}
