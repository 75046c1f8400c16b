package line_test

import (
	"slices"

	"rotulus/api"
	"rotulus/cell"
)

// The models tell what the chapter asks: lines by a flag that a row leaves behind it, rows by cutting off as much of a line as has room, places by walking through the rows that they made. They and the program share no code.

// modelMay is pack.May: it goes from sign to sign.
func modelMay(r api.Row) bool {
	for col := 0; col < len(r.Cells); {
		c := r.Cells[col]
		if !cell.May(c) || c.W == 0 {
			return false
		}
		if c.W == 2 && (col+1 == len(r.Cells) || r.Cells[col+1] != of(0, 0, c.A)) {
			return false
		}
		col += c.W
	}
	return len(r.Cells) <= 300
}

// modelRows are rows, each that may not be without cells and Wrap.
func modelRows(rows []api.Row) []api.Row {
	out := slices.Clone(rows)
	for i, r := range out {
		if !modelMay(r) {
			out[i] = api.Row{}
		}
	}
	return out
}

// modelSigns are the signs of cells: what else there is has none.
func modelSigns(l []api.Cell) []api.Cell {
	return slices.DeleteFunc(slices.Clone(l), func(c api.Cell) bool { return c.R == 0 })
}

// modelJoin is Join.
func modelJoin(rows []api.Row) [][]api.Cell {
	var out [][]api.Cell
	open := false
	for _, r := range modelRows(rows) {
		if !open {
			out = append(out, nil)
		}
		out[len(out)-1] = append(out[len(out)-1], modelSigns(r.Cells)...)
		open = r.Wrap
	}
	for i := range out {
		out[i] = modelCut(out[i])
	}
	return out
}

// modelCut is l up to the last cell that is no Blank.
func modelCut(l []api.Cell) []api.Cell {
	n := 0
	for i, c := range l {
		if c != of(' ', 1, 0) {
			n = i + 1
		}
	}
	return l[:n]
}

// modelLine is cell.Line.
func modelLine(l []api.Cell) bool {
	for _, c := range l {
		if c.R == 0 || c.W == 0 || !cell.May(c) {
			return false
		}
	}
	return true
}

// modelRoom tells how many of l have room in a row of w cells.
func modelRoom(l []api.Cell, w int) int {
	n := 0
	for n < len(l) && w >= l[n].W {
		w -= l[n].W
		n++
	}
	return n
}

// modelLayout is Layout.
func modelLayout(l []api.Cell, w int) []api.Row {
	if w < 2 || w > 300 || !modelLine(l) {
		return nil
	}
	var out []api.Row
	for len(out) == 0 || len(l) > 0 {
		n := modelRoom(l, w)
		r := api.Row{Wrap: n < len(l)}
		for _, c := range l[:n] {
			r.Cells = append(r.Cells, cell.Of(c.R, c.A)...)
		}
		if r.Wrap && len(r.Cells) < w {
			r.Cells = append(r.Cells, of(0, 1, 0))
		}
		r.Cells = append(r.Cells, gaps(w-len(r.Cells))...)
		out, l = append(out, r), l[n:]
	}
	return out
}

// modelAll is All.
func modelAll(ls [][]api.Cell, w int) []api.Row {
	var out []api.Row
	for _, l := range ls {
		out = append(out, modelLayout(l, w)...)
	}
	return out
}

// modelSpot is Spot: it takes the rows of p's line up to p as a line of their own.
func modelSpot(rows []api.Row, p api.Pos) api.Spot {
	if p.Row < 0 || p.Row >= len(rows) {
		return api.Spot{}
	}
	all := modelRows(rows)
	first := p.Row
	for first > 0 && all[first-1].Wrap {
		first--
	}
	number := 0
	for _, r := range all[:first] {
		if !r.Wrap {
			number++
		}
	}
	var ahead []api.Cell
	for _, r := range all[first:p.Row] {
		ahead = append(ahead, modelSigns(r.Cells)...)
	}
	ahead = append(ahead, modelSigns(modelAhead(all[p.Row].Cells, p.Col))...)
	long := len(modelJoin(rows)[number])
	if len(ahead) > long {
		return spot(number, long, len(ahead)-long)
	}
	return spot(number, len(ahead), 0)
}

// modelAhead are the cells of l ahead of col, or of the nearer end; at a second half, ahead of its first one.
func modelAhead(l []api.Cell, col int) []api.Cell {
	if col < 0 {
		col = 0
	}
	if col >= len(l) {
		return l
	}
	if l[col].W == 0 {
		col--
	}
	return l[:col]
}

// modelPlaces are the places of all signs of l, and the one behind the last of them, in rows of w cells.
func modelPlaces(l []api.Cell, w int) []api.Pos {
	behind := at(0, 0)
	var out []api.Pos
	for i, r := range modelLayout(l, w) {
		for col, c := range r.Cells {
			if c.R != 0 && len(out) < len(l) {
				out, behind = append(out, at(i, col)), at(i, col+c.W)
			}
		}
	}
	return append(out, behind)
}

// modelPlace is Place: it goes from Past to Past in single steps.
func modelPlace(ls [][]api.Cell, w int, s api.Spot) api.Pos {
	if w < 2 || w > 300 || s.Line < 0 || s.Line >= len(ls) || s.Past < 0 || s.Off < 0 || s.Off > len(ls[s.Line]) || !modelLine(ls[s.Line]) {
		return api.Pos{}
	}
	l := ls[s.Line]
	p := modelPlaces(l, w)[s.Off]
	if s.Off == len(l) && s.Past > 0 {
		for n := 0; n < s.Past && p.Col < w-1; n++ {
			p.Col++
		}
		if p.Col == w {
			p.Col--
		}
	}
	p.Row += len(modelAll(ls[:s.Line], w))
	return p
}
