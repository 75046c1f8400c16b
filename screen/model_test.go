package screen_test

import (
	"slices"

	"rotulus/api"
)

// The model is what the chapter asks of a screen: one list of all the rows that there ever were, of which the last ones are seen, each of them a list of signs with their places. A number is gone by in single steps. It and the program share no code.

// sign is one that stands somewhere in a row; a Pad is one too, a Blank may be one or none at all.
type sign struct {
	col   int
	cells []api.Cell
}

// line is a row of the model.
type line struct {
	signs []sign
	wrap  bool
}

// model is a screen. Its row is counted from the first one that ever was.
type model struct {
	w, h      int
	rows      []line
	row, col  int
	attribute int
}

// modelNew is New of a size that may be.
func modelNew(w, h int) *model { return &model{w: w, h: h, rows: make([]line, h)} }

// modelOf is Of of a size, a cursor and an attribute that may be.
func modelOf(rows []api.Row, w, h int, at api.Pos, attr int) *model {
	m := modelNew(w, h)
	m.row, m.col, m.attribute = at.Row, at.Col, attr
	for i, r := range rows {
		if i < h && modelMay(r) {
			m.rows[i] = modelLine(r, w)
		}
	}
	return m
}

// modelLine is r without the signs that reach beyond w.
func modelLine(r api.Row, w int) line {
	x := line{wrap: r.Wrap}
	for col := 0; col < len(r.Cells); {
		n := r.Cells[col].W
		if col+n <= w {
			x.signs = append(x.signs, sign{col, slices.Clone(r.Cells[col : col+n])})
		}
		col += n
	}
	return x
}

// modelMay is pack.May: it goes from sign to sign.
func modelMay(r api.Row) bool {
	for col := 0; col < len(r.Cells); {
		c := r.Cells[col]
		isPad := c == of(0, 1, 0)
		if c.A < 0 || c.A > 255 || c.W < 1 || !isPad && modelWidth(c.R) != c.W {
			return false
		}
		if c.W == 2 && (col+1 == len(r.Cells) || r.Cells[col+1] != of(0, 0, c.A)) {
			return false
		}
		col += c.W
	}
	return len(r.Cells) <= 300
}

// modelWidth is the width of a sign, as the tests use them.
func modelWidth(r rune) int {
	switch {
	case r < 32, 127 <= r && r < 160, r == 0x301, r == 0x36F, r == 0x200B, r == 0xFE0F, 0xD800 <= r && r <= 0xDFFF, r > 0x10FFFF:
		return 0
	case 0x4E00 <= r && r <= 0x9FFF, r == 0x1100, r == 0x3000, r == 0xFF01, r == 0x1F600, r == 0x3FFFD:
		return 2
	}
	return 1
}

// do is Do.
func (m *model) do(e api.Event) []api.Row {
	before := len(m.rows)
	switch e.Kind {
	case api.EPrint:
		m.print(e.R)
	case api.ECtrl:
		m.control(e.R)
	case api.ECsi:
		m.csi(e.R, e.Args)
	}
	var gone []api.Row
	for i := before; i < len(m.rows); i++ {
		gone = append(gone, m.told(i-m.h))
	}
	return gone
}

// print is EPrint of r.
func (m *model) print(r rune) {
	k := modelWidth(r)
	if k == 0 {
		return
	}
	if m.w-m.col < k {
		if m.w-m.col == 1 {
			m.stand(of(0, 1, 0))
		}
		m.rows[m.row].wrap = true
		m.down()
		m.col = 0
	}
	if k == 1 {
		m.stand(of(r, 1, m.attribute))
	} else {
		m.stand(of(r, 2, m.attribute), of(0, 0, m.attribute))
	}
	m.col += k
}

// stand makes the cells of one sign stand at the cursor: the signs that they touch are gone.
func (m *model) stand(cells ...api.Cell) {
	x := &m.rows[m.row]
	x.clear(m.col, m.col+len(cells))
	x.signs = append(x.signs, sign{m.col, cells})
}

// clear takes away the signs that reach into the cols from..to-1.
func (x *line) clear(from, to int) {
	x.signs = slices.DeleteFunc(x.signs, func(s sign) bool {
		return s.col < to && from < s.col+len(s.cells)
	})
}

// down is one row on, a new one behind the last one.
func (m *model) down() {
	m.row++
	if m.row == len(m.rows) {
		m.rows = append(m.rows, line{})
	}
}

// control is ECtrl of r.
func (m *model) control(r rune) {
	switch r {
	case 8:
		if m.col > 0 {
			m.col--
		}
	case 9:
		m.col++
		for m.col%8 != 0 {
			m.col++
		}
		m.onto()
	case 10:
		m.onto()
		m.down()
	case 13:
		m.col = 0
	}
}

// onto brings a col beyond the last one back to it.
func (m *model) onto() {
	for m.col >= m.w {
		m.col--
	}
}

// top is the first row that is seen.
func (m *model) top() int { return len(m.rows) - m.h }

// csi is ECsi of that last byte.
func (m *model) csi(last rune, args []int) {
	if !slices.Contains([]rune{'A', 'B', 'C', 'D', 'H', 'J', 'K', 'm'}, last) {
		return
	}
	m.onto()
	first, second := nth(args, 0), nth(args, 1)
	switch last {
	case 'A':
		m.walk(oneIfZero(first), -1, 0)
	case 'B':
		m.walk(oneIfZero(first), 1, 0)
	case 'C':
		m.walk(oneIfZero(first), 0, 1)
	case 'D':
		m.walk(oneIfZero(first), 0, -1)
	case 'H':
		m.row = m.top() - 1
		m.walk(oneIfZero(first), 1, 0)
		m.col = -1
		m.walk(oneIfZero(second), 0, 1)
	case 'J', 'K':
		m.erase(last == 'J', first)
	case 'm':
		m.attribute = 0
		for _, n := range args {
			m.attribute = int(uint8(n))
		}
	}
}

// nth is the number at i, 0 if there is none.
func nth(args []int, i int) int {
	if len(args) > i {
		return args[i]
	}
	return 0
}

// oneIfZero is n, or 1 if that is 0.
func oneIfZero(n int) int {
	if n == 0 {
		return 1
	}
	return n
}

// walk goes n steps, or as many the other way; more than a screen is long are none, so some are let off.
func (m *model) walk(n, rows, cols int) {
	if n < 0 {
		n, rows, cols = -max(n, -500), -rows, -cols
	}
	for range min(n, 500) {
		m.row += rows
		m.col += cols
	}
	m.row = min(max(m.row, m.top()), len(m.rows)-1)
	m.col = min(max(m.col, 0), m.w-1)
}

// erase is J, or K, of what: it asks each cell that is seen whether it is to be Blank.
func (m *model) erase(others bool, what int) {
	for i := m.top(); i < len(m.rows); i++ {
		for col := range m.w {
			isBehind := i > m.row || i == m.row && col >= m.col
			isAhead := i < m.row || i == m.row && col <= m.col
			isAsked := what == 2 || what == 0 && isBehind || what == 1 && isAhead
			if !isAsked || i != m.row && !others {
				continue
			}
			m.rows[i].clear(col, col+1)
			if col == m.w-1 {
				m.rows[i].wrap = false
			}
		}
	}
}

// told is the i-th row that ever was, as the screen tells it.
func (m *model) told(i int) api.Row {
	out := api.Row{Cells: gaps(m.w), Wrap: m.rows[i].wrap}
	for _, x := range m.rows[i].signs {
		copy(out.Cells[x.col:], x.cells)
	}
	return out
}

// seen is Rows.
func (m *model) seen() []api.Row {
	var out []api.Row
	for i := m.top(); i < len(m.rows); i++ {
		out = append(out, m.told(i))
	}
	return out
}

// cursor is Cursor.
func (m *model) cursor() api.Pos { return api.Pos{Row: m.row - m.top(), Col: m.col} }
