package reflow_test

import (
	"math"
	"slices"
	"testing"

	"rotulus/api"
)

// marksOf are the places of rows, those behind the last cell and those beside them.
func marksOf(rows []api.Row) []api.Pos {
	var out []api.Pos
	for row := -1; row <= len(rows); row++ {
		many := 0
		if 0 <= row && row < len(rows) {
			many = len(rows[row].Cells)
		}
		for col := -1; col <= many+1; col++ {
			out = append(out, at(row, col))
		}
	}
	return out
}

// marked are rows, and where the marks at each Col of one of them, from 0 on, stand at a width.
func marked() []struct {
	rows string
	w    int
	row  int
	want []api.Pos
} {
	return []struct {
		rows string
		w    int
		row  int
		want []api.Pos
	}{
		// Each cell; behind the last one, where the line goes on and where it ends.
		{"abc", 2, 0, list(at(0, 0), at(0, 1), at(1, 0), at(1, 1))},
		{"abc", 3, 0, list(at(0, 0), at(0, 1), at(0, 2), at(0, 3))},
		{"abc", 9, 0, list(at(0, 0), at(0, 1), at(0, 2), at(0, 3))},
		{"abc|/de.", 2, 0, list(at(0, 0), at(0, 1), at(1, 0), at(1, 1))},
		{"abc|/de.", 2, 1, list(at(1, 1), at(2, 0), at(2, 1), at(2, 1))},
		{"abc|/de.", 5, 1, list(at(0, 3), at(0, 4), at(0, 5), at(0, 4))},
		{"abc|/de.", 9, 1, list(at(0, 3), at(0, 4), at(0, 5), at(0, 6))},
		{"abc/de.", 2, 1, list(at(2, 0), at(2, 1), at(2, 2), at(2, 1))},
		{"ab|/cd/e|/f|", 4, 3, list(at(1, 1), at(1, 2))},
		{"a/b/c", 2, 2, list(at(2, 0), at(2, 1))},
		// Each half of a wide sign, and the place behind it.
		{"a中b", 2, 0, list(at(0, 0), at(1, 0), at(1, 0), at(2, 0), at(2, 1))},
		{"a中b", 3, 0, list(at(0, 0), at(0, 1), at(0, 1), at(1, 0), at(1, 1))},
		{"a中b", 4, 0, list(at(0, 0), at(0, 1), at(0, 1), at(0, 3), at(0, 4))},
		{"中国", 3, 0, list(at(0, 0), at(0, 0), at(1, 0), at(1, 0), at(1, 2))},
		{"x/中|/国界", 4, 2, list(at(1, 2), at(1, 2), at(2, 0), at(2, 0), at(2, 2))},
		// A Pad: what stands behind it, or the line's end.
		{"ab_|/中c", 4, 0, list(at(0, 0), at(0, 1), at(0, 2), at(0, 2))},
		{"ab_|/中c", 4, 1, list(at(0, 2), at(0, 2), at(1, 0), at(1, 1))},
		{"ab_|/中c", 3, 0, list(at(0, 0), at(0, 1), at(1, 0), at(1, 0))},
		{"_a_b_", 2, 0, list(at(0, 0), at(0, 0), at(0, 1), at(0, 1), at(0, 2), at(0, 2))},
		{"__", 2, 0, list(at(0, 0), at(0, 0), at(0, 0))},
		{"a._.", 4, 0, list(at(0, 0), at(0, 1), at(0, 2), at(0, 2), at(0, 3))},
		// Blanks behind the line's end: as far behind it, up to the last col.
		{"a...", 2, 0, list(at(0, 0), at(0, 1), at(0, 1), at(0, 1), at(0, 1))},
		{"a...", 3, 0, list(at(0, 0), at(0, 1), at(0, 2), at(0, 2), at(0, 2))},
		{"a...", 9, 0, list(at(0, 0), at(0, 1), at(0, 2), at(0, 3), at(0, 4))},
		{"...", 2, 0, list(at(0, 0), at(0, 1), at(0, 1), at(0, 1))},
		{"abcd..", 2, 0, list(at(0, 0), at(0, 1), at(1, 0), at(1, 1), at(1, 2), at(1, 1), at(1, 1))},
		{"a/...", 3, 1, list(at(1, 0), at(1, 1), at(1, 2), at(1, 2))},
		{"a..|/...", 4, 1, list(at(0, 3), at(0, 3), at(0, 3), at(0, 3))},
		{"a..|/...", 9, 1, list(at(0, 3), at(0, 4), at(0, 5), at(0, 6))},
		{"中..", 3, 0, list(at(0, 0), at(0, 0), at(0, 2), at(0, 2), at(0, 2))},
		// Blanks that the line has are cells of it.
		{"a..|/..b", 4, 0, list(at(0, 0), at(0, 1), at(0, 2), at(0, 3))},
		{"a..|/..b", 4, 1, list(at(0, 3), at(1, 0), at(1, 1), at(1, 2))},
		{"a.~.", 2, 0, list(at(0, 0), at(0, 1), at(1, 0), at(1, 1), at(1, 1))},
		// Rows without cells.
		{"", 2, 0, list(at(0, 0))}, {"a//b", 2, 1, list(at(1, 0))}, {"abc|/", 2, 1, list(at(1, 1))}, {"abc|//d", 2, 1, list(at(1, 1))}, {"a.|/|/b", 2, 1, list(at(1, 0))}, {"ab|/|/c", 2, 1, list(at(1, 0))}, {"ab|/", 2, 1, list(at(0, 2))},
		// Rows that may not be have no cells: the place is that of their beginning.
		{">|/b", 2, 0, list(at(0, 0))}, {">|/b", 2, 1, list(at(1, 0), at(1, 1))}, {"abc|/d<|/e", 2, 1, list(at(1, 1))}, {"abc|/d<|/e", 2, 2, list(at(2, 0), at(2, 1))}, {"a..|/>|/b", 9, 1, list(at(0, 3))},
	}
}

// P11.1: a mark at each Col; at the nearer end for those below 0 and beyond the last one.
func TestMarks(t *testing.T) {
	for _, x := range marked() {
		rows := readAll(x.rows)
		want, _ := modelRows(rows, x.w)
		var marks, moved []api.Pos
		for col, p := range x.want {
			marks, moved = append(marks, at(x.row, col)), append(moved, p)
			checkReflow(t, x.rows, rows, x.w, list(at(x.row, col)), want, list(p))
		}
		last := len(x.want) - 1
		for _, far := range []int{1, 2, 300, 1 << 32, math.MaxInt - 1000} {
			marks, moved = append(marks, at(x.row, -far), at(x.row, last+far)), append(moved, x.want[0], x.want[last])
		}
		marks, moved = append(marks, at(x.row, math.MinInt), at(x.row, math.MaxInt)), append(moved, x.want[0], x.want[last])
		checkReflow(t, x.rows, rows, x.w, marks, want, moved)
	}
}

// P11.1: a mark in no row is zero, among others too, and takes none of their places.
func TestMarksInNoRow(t *testing.T) {
	rows := readAll("abc|/de./f..")
	want := readAll("ab|/cd|/e./f.")
	for _, row := range []int{math.MinInt, math.MinInt + 1, -1 << 32, -2, -1, 3, 4, 300, 1 << 32, math.MaxInt - 1, math.MaxInt} {
		for _, col := range []int{math.MinInt, -1, 0, 1, 2, 300, math.MaxInt} {
			checkReflow(t, "no row", rows, 2, list(at(row, col)), want, list(at(0, 0)))
			checkReflow(t, "no row among others", rows, 2, list(at(1, 1), at(row, col), at(2, 0)), want, list(at(2, 0), at(0, 0), at(3, 0)))
		}
	}
}

// P11.1: as many marks as were handed in, in their order; alike ones stand alike.
func TestMarksInOrder(t *testing.T) {
	rows := readAll("abc|/中d/.../e")
	want := readAll("ab|/c_|/中|/d./../e.")
	marks := list(at(3, 0), at(0, 2), at(1, 1), at(0, 0), at(3, 0), at(7, 7), at(1, 2), at(0, 2), at(1, 0), at(2, 1), at(0, 2))
	moved := list(at(5, 0), at(1, 0), at(2, 0), at(0, 0), at(5, 0), at(0, 0), at(3, 0), at(1, 0), at(2, 0), at(4, 1), at(1, 0))
	for n := range len(marks) + 1 {
		checkReflow(t, "some marks", rows, 2, marks[:n], want, moved[:n])
	}
	slices.Reverse(marks)
	slices.Reverse(moved)
	checkReflow(t, "the other way round", rows, 2, marks, want, moved)
	many := slices.Repeat(marks, 200)
	checkReflow(t, "many marks", rows, 2, many, want, slices.Repeat(moved, 200))
}
