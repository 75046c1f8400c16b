package pane_test

import (
	"math"
	"slices"
	"strings"
	"testing"

	"rotulus/api"
	"rotulus/pack"
	"rotulus/pane"
	"rotulus/screen"
)

// of is a cell in short.
func of(r rune, w, a int) api.Cell { return api.Cell{R: r, W: w, A: a} }

// wide are the cells of a wide sign.
func wide(r rune, a int) []api.Cell { return []api.Cell{of(r, 2, a), of(0, 0, a)} }

// gaps are n Blanks.
func gaps(n int) []api.Cell { return slices.Repeat([]api.Cell{of(' ', 1, 0)}, n) }

// at is a place in short.
func at(row, col int) api.Pos { return api.Pos{Row: row, Col: col} }

// read makes a row of a text: . is a Blank, ~ a blank with the attribute 7, _ a Pad, 中 and 国 a wide sign (two cells), 界 one with the attribute 7, a capital one with the attribute 7, | at the end Wrap.
func read(s string) api.Row {
	var r api.Row
	for _, x := range s {
		switch {
		case x == '.':
			r.Cells = append(r.Cells, of(' ', 1, 0))
		case x == '~':
			r.Cells = append(r.Cells, of(' ', 1, 7))
		case x == '_':
			r.Cells = append(r.Cells, of(0, 1, 0))
		case x == '中' || x == '国':
			r.Cells = append(r.Cells, wide(x, 0)...)
		case x == '界':
			r.Cells = append(r.Cells, wide(x, 7)...)
		case x == '|':
			r.Wrap = true
		case 'A' <= x && x <= 'Z':
			r.Cells = append(r.Cells, of(x, 1, 7))
		default:
			r.Cells = append(r.Cells, of(x, 1, 0))
		}
	}
	return r
}

// readAll makes rows of a text, with a / between two.
func readAll(s string) []api.Row {
	var out []api.Row
	for _, x := range strings.Split(s, "/") {
		out = append(out, read(x))
	}
	return out
}

// same says whether a and b are the same row, without asking the program.
func same(a, b api.Row) bool { return a.Wrap == b.Wrap && slices.Equal(a.Cells, b.Cells) }

// show is the opposite of readAll, of the first rows, to be told where a test fails.
func show(rows []api.Row) string {
	var out []string
	for _, r := range rows[:min(len(rows), 40)] {
		s := ""
		for _, c := range r.Cells[:min(len(r.Cells), 40)] {
			switch {
			case c == of(' ', 1, 0):
				s += "."
			case c == of(0, 1, 0):
				s += "_"
			case c.R == ' ':
				s += "~"
			case c.R != 0:
				s += string(c.R)
			}
		}
		if r.Wrap {
			s += "|"
		}
		out = append(out, s)
	}
	return strings.Join(out, "/")
}

// state is all that a pane tells of itself, but for its lines, which its rows say.
type state struct {
	history    int
	rows       []api.Row
	cursor     api.Pos
	attr       int
	w, h, most int
}

// stateOf asks p for all of it.
func stateOf(p *pane.Pane) state {
	s := p.Screen()
	w, h := p.Size()
	return state{p.History(), p.Rows(), s.Cursor(), s.Attr(), w, h, p.Limit()}
}

// text tells a state in short.
func (s state) text() string {
	n := func(n int) string { return " " + itoa(n) }
	return "history" + n(s.history) + ", rows " + show(s.rows) + ", cursor" + n(s.cursor.Row) + n(s.cursor.Col) + ", attribute" + n(s.attr) + ", size" + n(s.w) + n(s.h) + ", limit" + n(s.most)
}

// equals says whether two states are alike.
func (s state) equals(other state) bool {
	alike := s.history == other.history && s.cursor == other.cursor && s.attr == other.attr
	alike = alike && s.w == other.w && s.h == other.h && s.most == other.most
	return alike && slices.EqualFunc(s.rows, other.rows, same)
}

// check holds all that p tells against what is wanted.
func check(t *testing.T, name string, p *pane.Pane, want state) {
	t.Helper()
	if got := stateOf(p); !got.equals(want) {
		t.Fatalf("%s:\n%s, not\n%s", name, got.text(), want.text())
	}
	checkScreen(t, name, p.Screen(), want)
	if got, lines := p.Lines(), linesOf(want.rows); !slices.EqualFunc(got, lines, slices.Equal) {
		t.Fatalf("%s: %s: the lines %v, not %v", name, show(want.rows), got, lines)
	}
	checkLimits(t, name, p)
}

// checkScreen holds s against the part of a state that is seen.
func checkScreen(t *testing.T, name string, s *screen.Screen, want state) {
	t.Helper()
	if w, h := s.Size(); w != want.w || h != want.h {
		t.Fatalf("%s: the screen's size is %d, %d, not %d, %d", name, w, h, want.w, want.h)
	}
	if seen := want.rows[want.history:]; !slices.EqualFunc(s.Rows(), seen, same) {
		t.Fatalf("%s: the screen's rows are %s, not %s", name, show(s.Rows()), show(seen))
	}
}

// checkLimits holds R5: sizes, limit, cursor and rows of p are such as may be.
func checkLimits(t *testing.T, name string, p *pane.Pane) {
	t.Helper()
	s := stateOf(p)
	if s.w < 2 || s.w > 300 || s.h < 1 || s.h > 100 || s.most < 0 || s.most > 1000000 {
		t.Fatalf("%s: R5: %s", name, s.text())
	}
	if s.history < 0 || s.history > s.most || len(s.rows) != s.history+s.h {
		t.Fatalf("%s: R5: %d rows: %s", name, len(s.rows), s.text())
	}
	if s.cursor.Row < 0 || s.cursor.Row >= s.h || s.cursor.Col < 0 || s.cursor.Col > s.w || s.attr < 0 || s.attr > 255 {
		t.Fatalf("%s: R5: %s", name, s.text())
	}
	for _, r := range s.rows {
		if !pack.May(r) || len(r.Cells) != s.w {
			t.Fatalf("%s: R5: a row that may not be, or has not %d cells: %v", name, s.w, r)
		}
	}
}

// linesOf are the lines of rows, without the empty ones at the end.
func linesOf(rows []api.Row) [][]api.Cell {
	ls := modelLines(rows)
	for len(ls) > 0 && len(ls[len(ls)-1]) == 0 {
		ls = ls[:len(ls)-1]
	}
	return ls
}

// made is a pane to which a text was written.
func made(w, h, limit int, text string) *pane.Pane {
	p := pane.New(w, h, limit)
	p.Write(text)
	return p
}

// side is a number, and the one nearest to it that may be.
type side struct{ given, taken int }

// sides are numbers below the least, at it, between, at the most, above it and huge.
func sides(least, most int) []side {
	return []side{
		{math.MinInt, least}, {math.MinInt + 1, least}, {-1 << 32, least}, {-1<<32 + most, least}, {-1000, least}, {-1, least}, {least - 1, least},
		{least, least}, {least + 1, least + 1}, {(least + most) / 2, (least + most) / 2}, {most - 1, most - 1}, {most, most},
		{most + 1, most}, {most + 2, most}, {2 * most, most}, {1 << 32, most}, {1<<32 + 5, most}, {math.MaxInt - 1, most}, {math.MaxInt, most},
	}
}

// blankRows are h rows of w Blanks.
func blankRows(w, h int) []api.Row { return slices.Repeat([]api.Row{{Cells: gaps(w)}}, h) }

// P12.1: New has blank rows, as many and as wide as is asked or as the nearer end says, the cursor at 0, 0, and nothing has gone out.
func TestNew(t *testing.T) {
	limits := sides(0, api.MaxLimit)
	n := 0
	for _, w := range sides(api.MinWide, api.MaxWide) {
		for _, h := range sides(1, api.MaxHigh) {
			limit := limits[n%len(limits)]
			n++
			p := pane.New(w.given, h.given, limit.given)
			check(t, "New", p, state{rows: blankRows(w.taken, h.taken), w: w.taken, h: h.taken, most: limit.taken})
			if len(p.Lines()) != 0 {
				t.Fatalf("a new pane has the lines %v", p.Lines())
			}
		}
	}
	for _, limit := range limits {
		check(t, "New", pane.New(3, 2, limit.given), state{rows: blankRows(3, 2), w: 3, h: 2, most: limit.taken})
	}
}

// P12.1: the limits that the chapters name.
func TestLimitsOfNew(t *testing.T) {
	if api.MinWide != 2 || api.MaxWide != 300 || api.MaxHigh != 100 || api.MaxLimit != 1000000 {
		t.Errorf("the limits are %d, %d, %d, %d", api.MinWide, api.MaxWide, api.MaxHigh, api.MaxLimit)
	}
}

// P12.2: a nil *Pane tells nothing and takes nothing; one that nobody made does not either, and nothing panics.
func TestNil(t *testing.T) {
	for name, p := range map[string]*pane.Pane{"nil": nil, "of its own": {}} {
		for range 2 {
			for _, s := range []string{"", "a", "a\r\nb\n\n\n", "\x1b]0;t\x07", "\xe4", "\x1b["} {
				if told := p.Write(s); len(told) != 0 {
					t.Errorf("%s: Write tells %q", name, told)
				}
			}
			for _, n := range sides(0, 1000) {
				p.SetLimit(n.given)
				p.Resize(n.given, 3)
				p.Resize(3, n.given)
			}
			w, h := p.Size()
			if w != 0 || h != 0 || p.Limit() != 0 || p.History() != 0 || p.Screen() != nil || len(p.Rows()) != 0 || len(p.Lines()) != 0 {
				t.Errorf("%s: %d, %d, %d, %d, %v, %v, %v", name, w, h, p.Limit(), p.History(), p.Screen(), p.Rows(), p.Lines())
			}
		}
	}
	var none *pane.Pane
	if none.Rows() != nil || none.Write("\x1b]t\x07") != nil {
		t.Error("a nil pane tells a list that is not nil")
	}
}

// P12.1: to ask turns nothing.
func TestAskedOften(t *testing.T) {
	p := made(3, 2, 3, "abcd\r\ne\r\n\x1b[7mFGH界\xe4")
	want := state{3, readAll("abc|/d../e../FGH|/界."), at(1, 2), 7, 3, 2, 3}
	for range 5 {
		check(t, "asked", p, want)
	}
}
