package row_test

import (
	"slices"

	"rotulus/api"
	"rotulus/cell"
)

// The models tell what the chapter asks by cutting a row in two and putting parts one behind the other, or by places of whole signs; they and the program share no code.

// cutAt parts l ahead of col; of a wide sign that is cut both halves are Blank.
func cutAt(l []api.Cell, col int) (left, right []api.Cell) {
	left, right = slices.Clone(l[:col]), slices.Clone(l[col:])
	if col > 0 && l[col-1].W == 2 {
		left[col-1], right[0] = of(' ', 1, 0), of(' ', 1, 0)
	}
	return left, right
}

// modelRowMay is pack.May: it goes from sign to sign.
func modelRowMay(r api.Row) bool {
	l := r.Cells
	for i := 0; i < len(l); i++ {
		if !cell.May(l[i]) || l[i].W == 0 {
			return false
		}
		if l[i].W == 2 {
			if i+1 == len(l) || l[i+1] != of(0, 0, l[i].A) {
				return false
			}
			i++
		}
	}
	return len(l) <= 300
}

// modelOne tells whether l may be Set: it goes by what a cell of its own has to be.
func modelOne(l []api.Cell) bool {
	switch len(l) {
	case 1:
		return l[0].W == 1 && cell.May(l[0])
	case 2:
		return l[0].W == 2 && cell.May(l[0]) && l[1] == of(0, 0, l[0].A)
	}
	return false
}

// modelSet is Set.
func modelSet(r api.Row, col int, l []api.Cell) (api.Row, bool) {
	if !modelRowMay(r) || !modelOne(l) || col < 0 || col >= len(r.Cells) || len(l) == 2 && col == len(r.Cells)-1 {
		return r, false
	}
	left, _ := cutAt(r.Cells, col)
	_, right := cutAt(r.Cells, col+len(l))
	return api.Row{Cells: join(left, l, right), Wrap: r.Wrap}, true
}

// modelErase is Erase.
func modelErase(r api.Row, from, to int) (api.Row, bool) {
	if !modelRowMay(r) || from < 0 || to < 0 || from > len(r.Cells) || to > len(r.Cells) || to < from {
		return r, false
	}
	if from == to {
		return r, true
	}
	left, _ := cutAt(r.Cells, from)
	_, right := cutAt(r.Cells, to)
	return api.Row{Cells: join(left, gaps(to-from), right), Wrap: r.Wrap && to < len(r.Cells)}, true
}

// modelUsed is Used: the place behind the last cell that is no Blank.
func modelUsed(r api.Row) int {
	used := 0
	for i, c := range r.Cells {
		if c != of(' ', 1, 0) {
			used = i + 1
		}
	}
	if !modelRowMay(r) {
		return 0
	}
	return used
}

// modelIsBlank is IsBlank.
func modelIsBlank(r api.Row) bool {
	if !modelRowMay(r) {
		return true
	}
	return !r.Wrap && slices.Equal(r.Cells, gaps(len(r.Cells)))
}

// modelFirst is First: it goes from sign to sign up to the one that stands at col.
func modelFirst(r api.Row, col int) int {
	first := 0
	if !modelRowMay(r) {
		return 0
	}
	for i := 0; i < len(r.Cells) && i <= col; i += r.Cells[i].W {
		first = i
	}
	return first
}
