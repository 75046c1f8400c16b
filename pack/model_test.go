package pack_test

import (
	"bytes"
	"encoding/binary"

	"rotulus/api"
	"rotulus/cell"
)

// The models tell what the chapter asks by the library's own numbers of seven bits a byte; they and the program share no code.

// modelGetUint is GetUint: the library's number, but none that is longer than need be.
func modelGetUint(b []byte) (uint64, int) {
	n, k := binary.Uvarint(b)
	if k <= 0 || len(binary.AppendUvarint(nil, n)) != k {
		return 0, 0
	}
	return n, k
}

// modelMay is May: it goes from wide sign to second half by place.
func modelMay(r api.Row) bool {
	l := r.Cells
	for i := 0; i < len(l); i++ {
		if l[i].W == 0 || !cell.May(l[i]) {
			return false
		}
		if l[i].W == 2 {
			if i+1 == len(l) || l[i+1] != (api.Cell{A: l[i].A}) {
				return false
			}
			i++
		}
	}
	return len(l) <= 300
}

// modelPut is Put: it counts the runs ahead of the first cell of each, then writes them.
func modelPut(r api.Row) ([]byte, bool) {
	if !modelMay(r) {
		return nil, false
	}
	var tail []byte
	many := uint64(0)
	for from := 0; from < len(r.Cells); {
		c, to := r.Cells[from], from
		for to < len(r.Cells) && r.Cells[to] == c {
			to++
		}
		for _, n := range []int{to - from, int(c.R), c.W, c.A} {
			tail = binary.AppendUvarint(tail, uint64(n))
		}
		many, from = many+1, to
	}
	head := 2 * many
	if r.Wrap {
		head++
	}
	return append(binary.AppendUvarint(nil, head), tail...), true
}

// modelGet is Get: it reads whatever numbers there are, and then asks whether that row has these bytes.
func modelGet(b []byte) (api.Row, int, api.Errno) {
	rest := b
	next := func() uint64 {
		n, k := binary.Uvarint(rest)
		if k <= 0 {
			rest = nil
			return 1 << 60
		}
		rest = rest[k:]
		return n
	}
	head := next()
	if head > 1000 {
		return api.Row{}, 0, api.ErrForm
	}
	r := api.Row{Wrap: head%2 == 1}
	for range head / 2 {
		many, sign, width, attr := next(), next(), next(), next()
		if many > 300 || sign > 1<<30 || width > 1000 || attr > 1000 {
			return api.Row{}, 0, api.ErrForm
		}
		for range many {
			r.Cells = append(r.Cells, api.Cell{R: rune(sign), W: int(width), A: int(attr)})
		}
	}
	if want, ok := modelPut(r); ok && bytes.HasPrefix(b, want) {
		return r, len(want), api.OK
	}
	return api.Row{}, 0, api.ErrForm
}
