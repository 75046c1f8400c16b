package pane_test

import (
	"math/rand"
	"slices"
	"testing"

	"rotulus/api"
	"rotulus/pane"
)

// spoilCells writes into cells, their spare room too.
func spoilCells(l []api.Cell) {
	l = l[:cap(l)]
	for i := range l {
		l[i] = of('!', 1, 99)
	}
}

// spoilRows writes into rows, the spare room of each and of their list too.
func spoilRows(rows []api.Row) {
	rows = rows[:cap(rows)]
	for i, r := range rows {
		spoilCells(r.Cells)
		rows[i] = api.Row{Cells: gaps(1), Wrap: !r.Wrap}
	}
}

// spoilLines writes into lines, the spare room of each and of their list too.
func spoilLines(ls [][]api.Cell) {
	ls = ls[:cap(ls)]
	for i, l := range ls {
		spoilCells(l)
		ls[i] = gaps(3)
	}
}

// spoilTexts writes into a list of texts, its spare room too.
func spoilTexts(l []string) {
	l = l[:cap(l)]
	for i := range l {
		l[i] = "spoiled"
	}
}

// spoilAll writes into all that p tells.
func spoilAll(p *pane.Pane) {
	spoilRows(p.Rows())
	spoilLines(p.Lines())
	s := p.Screen()
	spoilRows(s.Rows())
	for _, e := range []api.Event{{Kind: api.ECsi, R: 'm', Args: []int{99}}, {Kind: api.EPrint, R: '!'}, {Kind: api.ECtrl, R: '\n'}, {Kind: api.ECsi, R: 'J', Args: []int{2}}} {
		spoilRows(s.Do(e))
	}
}

// P12.1, P12.2, P0.3: who writes into what is told, spare room too, turns nothing of the pane, whatever it is told then; nor does who does something with the screen that is told.
func TestToldIsOwn(t *testing.T) {
	die := rand.New(rand.NewSource(31))
	for range 150 {
		w, h := thrownSize(die)
		limit := []int{0, 1, 5, 100}[die.Intn(4)]
		p, m := pane.New(w, h, limit), newModel(w, h, limit)
		for range 12 {
			for _, x := range thrownTokens(die, 5) {
				spoilTexts(p.Write(x.text))
				x.do(m)
			}
			spoilAll(p)
			checkModel(t, "spoiled", p, m)
			toW, toH := thrownSize(die)
			p.Resize(toW, toH)
			m.resize(toW, toH)
			spoilAll(p)
			checkModel(t, "spoiled behind a Resize", p, m)
		}
	}
}

// answer is what a pane told once, with a copy of it.
type answer struct {
	rows   []api.Row
	lines  [][]api.Cell
	screen func() []api.Row
	was    state
}

// P12.1, P12.2, P0.3: what was told stays as it is, whatever the pane is told later and whoever writes into another answer.
func TestToldStays(t *testing.T) {
	die := rand.New(rand.NewSource(32))
	for range 60 {
		w, h := thrownSize(die)
		p, m := pane.New(w, h, 9), newModel(w, h, 9)
		var told []answer
		for range 10 {
			writeThrown(t, die, p, m, thrownTokens(die, 6))
			told = append(told, answer{p.Rows(), p.Lines(), p.Screen().Rows, m.state()})
			spoilAll(p)
		}
		for _, x := range told {
			isSame := slices.EqualFunc(x.rows, x.was.rows, same) && slices.EqualFunc(x.lines, linesOf(x.was.rows), slices.Equal)
			if !isSame || !slices.EqualFunc(x.screen(), x.was.rows[x.was.history:], same) {
				t.Fatalf("told was %s, and now it is %s", x.was.text(), show(x.rows))
			}
		}
	}
}

// P12.1, P0.3: the texts that one Write told stay, whatever comes behind it.
func TestTextsStay(t *testing.T) {
	p := pane.New(3, 2, 9)
	first := p.Write("\x1b]one\x07\x1b]two\x07\x1b]thr")
	second := p.Write("ee\x07")
	spoilTexts(p.Write("\x1b]four\x07\x1b]five\x07"))
	if !slices.Equal(first, []string{"one", "two"}) || !slices.Equal(second, []string{"three"}) {
		t.Errorf("told were %q and %q", first, second)
	}
	spoilTexts(first)
	if !slices.Equal(second, []string{"three"}) {
		t.Errorf("told was %q", second)
	}
}

// P12.1, P0.3: the rows of one answer share nothing, nor do its lines, spare room neither.
func TestOneAnswerSharesNothing(t *testing.T) {
	p := made(3, 2, 9, "ab中\r\n\r\nabcdefg\r\n\r\nx")
	rows, want := p.Rows(), p.Rows()
	for i := range rows {
		spoilCells(rows[i].Cells)
		if !slices.EqualFunc(rows[i+1:], want[i+1:], same) {
			t.Fatalf("row %d spoiled: the others are %s", i, show(rows[i+1:]))
		}
	}
	lines, wanted := p.Lines(), p.Lines()
	for i := range lines {
		spoilCells(lines[i])
		if !slices.EqualFunc(lines[i+1:], wanted[i+1:], slices.Equal) {
			t.Fatalf("line %d spoiled: the others are %v", i, lines[i+1:])
		}
	}
}

// P0.5: two panes go on without one another, and the screen that one tells goes on without it.
func TestTwoPanes(t *testing.T) {
	die := rand.New(rand.NewSource(33))
	p, m := pane.New(5, 2, 3), newModel(5, 2, 3)
	q, n := pane.New(5, 2, 3), newModel(5, 2, 3)
	for range 200 {
		writeThrown(t, die, p, m, thrownTokens(die, 3))
		checkModel(t, "the other", q, n)
		writeThrown(t, die, q, n, thrownTokens(die, 3))
		checkModel(t, "the one", p, m)
	}
	one := made(5, 2, 3, "ab")
	s := one.Screen()
	one.Write("\x1b[7mC\r\nde")
	one.Resize(3, 9)
	if w, h := s.Size(); s.Cursor() != at(0, 2) || s.Attr() != 0 || w != 5 || h != 2 || !slices.EqualFunc(s.Rows(), readAll("ab.../....."), same) {
		t.Errorf("the screen that was told is %s, its cursor at %v", show(s.Rows()), s.Cursor())
	}
}
