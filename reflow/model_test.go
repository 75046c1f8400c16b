package reflow_test

import (
	"slices"

	"rotulus/api"
	"rotulus/cell"
	"rotulus/pack"
)

// The model tells what the chapter asks without package line: it fills rows column by column, and finds a mark by counting the ends of signs ahead of it.

// modelLine is a line: where its rows begin, its signs with the Blanks at their end, and how many are its cells.
type modelLine struct {
	first int
	signs []api.Cell
	long  int
}

// modelRow is r as it counts: one that may not be has nothing.
func modelRow(r api.Row) api.Row {
	if !pack.May(r) {
		return api.Row{}
	}
	return r
}

// modelLines are the lines of rows.
func modelLines(rows []api.Row) []modelLine {
	var out []modelLine
	for i, r := range rows {
		if i == 0 || !modelRow(rows[i-1]).Wrap {
			out = append(out, modelLine{first: i})
		}
		l := &out[len(out)-1]
		for _, c := range modelRow(r).Cells {
			if c.R == 0 {
				continue
			}
			l.signs = append(l.signs, c)
			if c != of(' ', 1, 0) {
				l.long = len(l.signs)
			}
		}
	}
	return out
}

// cells are the cells of the line.
func (l modelLine) cells() []api.Cell { return l.signs[:l.long] }

// modelJoin are the cells of the lines of rows.
func modelJoin(rows []api.Row) [][]api.Cell {
	var out [][]api.Cell
	for _, l := range modelLines(rows) {
		out = append(out, l.cells())
	}
	return out
}

// modelFill fills rows of w columns with l, and tells where each of its cells stands, and the place behind the last one.
func modelFill(l []api.Cell, w int) ([]api.Row, []api.Pos) {
	var rows []api.Row
	var places []api.Pos
	behind := at(0, 0)
	for next := 0; next < len(l) || len(rows) == 0; {
		var r api.Row
		for len(r.Cells) < w {
			room := w - len(r.Cells)
			switch {
			case next == len(l):
				r.Cells = append(r.Cells, of(' ', 1, 0))
			case l[next].W > room:
				r.Cells = append(r.Cells, of(0, 1, 0))
			default:
				places = append(places, at(len(rows), len(r.Cells)))
				r.Cells = append(r.Cells, cell.Of(l[next].R, l[next].A)...)
				behind = at(len(rows), len(r.Cells))
				next++
			}
		}
		r.Wrap = next < len(l)
		rows = append(rows, r)
	}
	return rows, append(places, behind)
}

// modelSpot tells how many signs of its line stand ahead of p, and the number of the line; -1: there is no such row.
func modelSpot(rows []api.Row, p api.Pos) (int, int) {
	if p.Row < 0 || p.Row >= len(rows) {
		return -1, 0
	}
	ls := modelLines(rows)
	number := len(ls) - 1
	for ls[number].first > p.Row {
		number--
	}
	ahead := 0
	for i := ls[number].first; i <= p.Row; i++ {
		for col, c := range modelRow(rows[i]).Cells {
			if i == p.Row && col >= p.Col {
				break
			}
			// A wide sign ends with its second half.
			if c.W == 0 || c.W == 1 && c.R != 0 {
				ahead++
			}
		}
	}
	return number, ahead
}

// modelMark tells where p stands when rows are laid out w wide.
func modelMark(rows []api.Row, w int, p api.Pos) api.Pos {
	if w < 2 || w > 300 {
		return at(0, 0)
	}
	number, ahead := modelSpot(rows, p)
	if number < 0 {
		return at(0, 0)
	}
	ls := modelLines(rows)
	out := at(0, 0)
	for _, l := range ls[:number] {
		high, _ := modelFill(l.cells(), w)
		out.Row += len(high)
	}
	l := ls[number]
	_, places := modelFill(l.cells(), w)
	within := places[min(ahead, l.long)]
	out.Row, out.Col = out.Row+within.Row, within.Col
	if ahead > l.long {
		out.Col = min(out.Col+ahead-l.long, w-1)
	}
	return out
}

// modelRows is Rows.
func modelRows(rows []api.Row, w int, marks ...api.Pos) ([]api.Row, []api.Pos) {
	if w < 2 || w > 300 {
		return nil, nil
	}
	var out []api.Row
	var moved []api.Pos
	for _, l := range modelLines(rows) {
		filled, _ := modelFill(l.cells(), w)
		out = append(out, filled...)
	}
	for _, p := range marks {
		moved = append(moved, modelMark(rows, w, p))
	}
	return out, moved
}

// modelSame is Same.
func modelSame(a, b []api.Row) bool {
	one, other := modelJoin(a), modelJoin(b)
	if len(one) != len(other) {
		return false
	}
	for i := range one {
		if !slices.Equal(one[i], other[i]) {
			return false
		}
	}
	return true
}
