package pane_test

import (
	"slices"
	"strconv"

	"rotulus/api"
)

// The model is a terminal of its own: it has columns, each of which points to the sign that stands in it (a wide one stands in two), and keeps all the rows that there were since the last other size. It and the program share no code.

// glyph is a sign that stands in a column, or in two.
type glyph struct {
	r    rune
	w, a int
}

// strip is a row of the model; a column that points to nothing is a Blank.
type strip struct {
	cols []*glyph
	wrap bool
}

// model is a pane. Its rows are counted from the first one that ever was; those ahead of eldest are gone.
type model struct {
	w, h, limit int
	rows        []strip
	eldest      int
	row, col    int
	attr        int
	told        []string
}

// itoa tells a number.
func itoa(n int) string { return strconv.Itoa(n) }

// nearest is the number from least to most that is nearest to n.
func nearest(n, least, most int) int {
	switch {
	case n < least:
		return least
	case n > most:
		return most
	}
	return n
}

// newStrip is a blank row.
func newStrip(w int) strip { return strip{cols: make([]*glyph, w)} }

// newModel is New.
func newModel(w, h, limit int) *model {
	m := &model{w: nearest(w, 2, 300), h: nearest(h, 1, 100), limit: nearest(limit, 0, 1000000)}
	for range m.h {
		m.rows = append(m.rows, newStrip(m.w))
	}
	return m
}

// top is the first row that is seen.
func (m *model) top() int { return len(m.rows) - m.h }

// drop takes the eldest rows away, as the limit says.
func (m *model) drop() { m.eldest = max(m.eldest, m.top()-m.limit) }

// setLimit is SetLimit.
func (m *model) setLimit(n int) {
	m.limit = nearest(n, 0, 1000000)
	m.drop()
}

// clear takes away the sign that stands in a column, from all columns where it stands.
func (s *strip) clear(col int) {
	gone := s.cols[col]
	for i, g := range s.cols {
		if gone != nil && g == gone {
			s.cols[i] = nil
		}
	}
}

// stand puts a sign at the cursor.
func (m *model) stand(g glyph) {
	s := &m.rows[m.row]
	for i := range g.w {
		s.clear(m.col + i)
		s.cols[m.col+i] = &g
	}
}

// print is a sign that comes.
func (m *model) print(r rune) {
	w := 1
	if r >= 0x4E00 && r <= 0x9FFF || r >= 0x1F300 && r <= 0x1F64F {
		w = 2
	}
	if m.w-m.col < w {
		if m.w-m.col == 1 {
			m.stand(glyph{0, 1, 0})
		}
		m.rows[m.row].wrap = true
		m.down()
		m.col = 0
	}
	m.stand(glyph{r, w, m.attr})
	m.col += w
}

// down is one row on.
func (m *model) down() {
	m.row++
	if m.row == len(m.rows) {
		m.rows = append(m.rows, newStrip(m.w))
		m.drop()
	}
}

// onto brings a cursor that is behind the last column onto it.
func (m *model) onto() { m.col = min(m.col, m.w-1) }

// feed is a line feed.
func (m *model) feed() {
	m.onto()
	m.down()
}

// tab is a tab.
func (m *model) tab() {
	for m.col++; m.col%8 != 0; {
		m.col++
	}
	m.onto()
}

// move is one of A, B, C, D.
func (m *model) move(rows, cols int) { m.goTo(m.row-m.top()+rows, min(m.col, m.w-1)+cols) }

// goTo brings the cursor to a row that is seen and a column.
func (m *model) goTo(row, col int) {
	m.row, m.col = m.top()+nearest(row, 0, m.h-1), nearest(col, 0, m.w-1)
}

// erase is J, or K, of a number.
func (m *model) erase(others bool, what int) {
	m.onto()
	for i := m.top(); i < len(m.rows); i++ {
		for col := range m.w {
			behind, ahead := i > m.row || i == m.row && col >= m.col, i < m.row || i == m.row && col <= m.col
			if (i == m.row || others) && (what == 2 || what == 0 && behind || what == 1 && ahead) {
				m.rows[i].clear(col)
				m.rows[i].wrap = m.rows[i].wrap && col < m.w-1
			}
		}
	}
}

// row tells a strip as the pane tells it.
func (s strip) row() api.Row {
	r := api.Row{Wrap: s.wrap}
	for col, g := range s.cols {
		switch {
		case g == nil:
			r.Cells = append(r.Cells, of(' ', 1, 0))
		case col > 0 && s.cols[col-1] == g:
			r.Cells = append(r.Cells, of(0, 0, g.a))
		default:
			r.Cells = append(r.Cells, of(g.r, g.w, g.a))
		}
	}
	return r
}

// isBlank says whether nothing stands in s and no line goes on behind it.
func (s strip) isBlank() bool { return same(s.row(), api.Row{Cells: gaps(len(s.cols))}) }

// all tells the rows that are not gone.
func (m *model) all() []api.Row {
	var out []api.Row
	for _, s := range m.rows[m.eldest:] {
		out = append(out, s.row())
	}
	return out
}

// state tells what the pane is to tell.
func (m *model) state() state {
	return state{m.top() - m.eldest, m.all(), at(m.row-m.top(), m.col), m.attr, m.w, m.h, m.limit}
}

// signsOf are the signs of a row, but for those that reach beyond a column.
func signsOf(r api.Row, upTo int) []api.Cell {
	var out []api.Cell
	for col, c := range r.Cells {
		if c.R != 0 && col+c.W <= upTo {
			out = append(out, c)
		}
	}
	return out
}

// trimmed is l without the Blanks at its end.
func trimmed(l []api.Cell) []api.Cell {
	n := 0
	for i, c := range l {
		if c != of(' ', 1, 0) {
			n = i + 1
		}
	}
	return l[:n]
}

// modelLines are the lines of rows.
func modelLines(rows []api.Row) [][]api.Cell {
	var out [][]api.Cell
	var l []api.Cell
	for i, r := range rows {
		l = append(l, signsOf(r, len(r.Cells))...)
		if !r.Wrap || i == len(rows)-1 {
			out, l = append(out, trimmed(l)), nil
		}
	}
	return out
}

// layer lays signs out in rows of its own.
type layer struct {
	w     int
	rows  []strip
	col   int       // behind the last sign
	stood []api.Pos // where the signs of this line stand
}

// begin begins a line.
func (y *layer) begin() { y.rows, y.col, y.stood = append(y.rows, newStrip(y.w)), 0, nil }

// put puts a sign behind the others of the line.
func (y *layer) put(c api.Cell) {
	s := &y.rows[len(y.rows)-1]
	if y.w-y.col < c.W {
		if y.col < y.w {
			s.cols[y.col] = &glyph{0, 1, 0}
		}
		s.wrap = true
		y.rows, y.col = append(y.rows, newStrip(y.w)), 0
		s = &y.rows[len(y.rows)-1]
	}
	y.stood = append(y.stood, at(len(y.rows)-1, y.col))
	g := &glyph{c.R, c.W, c.A}
	for range c.W {
		s.cols[y.col] = g
		y.col++
	}
}

// place tells where the cursor stands, so many signs of its line ahead of it.
func (y *layer) place(ahead int) api.Pos {
	if ahead < len(y.stood) {
		return y.stood[ahead]
	}
	end := at(len(y.rows)-1, y.col)
	if past := ahead - len(y.stood); past > 0 {
		end.Col = min(end.Col+past, y.w-1)
	}
	return end
}

// counted are the rows that count for another size, and the cursor's row among them.
func (m *model) counted() ([]api.Row, int) {
	last := m.row
	for i := m.row; i < len(m.rows); i++ {
		if !m.rows[i].isBlank() {
			last = i
		}
	}
	return m.all()[:last-m.eldest+1], m.row - m.eldest
}

// ahead tells the line in which the cursor stands, and how many signs stand ahead of it there.
func ahead(rows []api.Row, row, col int) (int, int) {
	number, many := 0, 0
	for i, r := range rows[:row] {
		many += len(signsOf(r, len(r.Cells)))
		if !rows[i].Wrap {
			number, many = number+1, 0
		}
	}
	return number, many + len(signsOf(rows[row], col))
}

// laid lays the rows that count out with w, and tells where the cursor goes.
func (m *model) laid(w int) ([]strip, api.Pos) {
	rows, row := m.counted()
	number, many := ahead(rows, row, m.col)
	y := layer{w: w}
	var cursor api.Pos
	for i, l := range modelLines(rows) {
		y.begin()
		for _, c := range l {
			y.put(c)
		}
		if i == number {
			cursor = y.place(many)
		}
	}
	return y.rows, cursor
}

// resize is Resize; it tells how many rows were too many.
func (m *model) resize(w, h int) int {
	w, h = nearest(w, 2, 300), nearest(h, 1, 100)
	if w == m.w && h == m.h {
		return 0
	}
	rows, cursor := m.laid(w)
	for len(rows) < h {
		rows = append(rows, newStrip(w))
	}
	m.w, m.h, m.rows, m.eldest = w, h, rows, 0
	m.row, m.col = max(cursor.Row, m.top()), cursor.Col
	m.drop()
	return m.eldest
}

// take tells what was told since the last time.
func (m *model) take() []string {
	told := slices.Clone(m.told)
	m.told = nil
	return told
}
