package pane_test

import (
	"math/rand"
	"slices"
	"strings"
	"testing"

	"rotulus/api"
	"rotulus/esc"
	"rotulus/pane"
	"rotulus/screen"
	"rotulus/utf"
)

// token is a text that does nothing until its last byte has come, and what it does then.
type token struct {
	text string
	do   func(m *model)
}

// says is a token that prints.
func says(text string, signs ...rune) token {
	return token{text, func(m *model) {
		for _, r := range signs {
			m.print(r)
		}
	}}
}

// idle is a token that does nothing.
func idle(text string) token { return token{text, func(*model) {}} }

// tells is a token that is an OSC.
func tells(text, osc string) token {
	return token{text, func(m *model) { m.told = append(m.told, osc) }}
}

// paints is a token that takes an attribute.
func paints(text string, attr int) token {
	return token{text, func(m *model) {
		m.onto()
		m.attr = attr
	}}
}

// fewTokens are some of all kinds but the ones that do nothing.
func fewTokens() []token {
	return []token{
		says("x", 'x'), says("中", '中'), says(" ", ' '),
		{"\r", func(m *model) { m.col = 0 }},
		{"\n", (*model).feed},
		{"\x1b[A", func(m *model) { m.move(-1, 0) }},
		{"\x1b[K", func(m *model) { m.erase(false, 0) }},
	}
}

// moves are tokens that move the cursor and erase.
func moves() []token {
	return []token{
		{"\b", func(m *model) { m.col = max(m.col-1, 0) }},
		{"\t", (*model).tab},
		{"\x1b[B", func(m *model) { m.move(1, 0) }},
		{"\x1b[2A", func(m *model) { m.move(-2, 0) }},
		{"\x1b[C", func(m *model) { m.move(0, 1) }},
		{"\x1b[0C", func(m *model) { m.move(0, 1) }},
		{"\x1b[9999C", func(m *model) { m.move(0, 9999) }},
		{"\x1b[3D", func(m *model) { m.move(0, -3) }},
		{"\x1b[H", func(m *model) { m.goTo(0, 0) }},
		{"\x1b[;3H", func(m *model) { m.goTo(0, 2) }},
		{"\x1b[2;2H", func(m *model) { m.goTo(1, 1) }},
		{"\x1b[99;99;7H", func(m *model) { m.goTo(98, 98) }},
		{"\x1b[J", func(m *model) { m.erase(true, 0) }},
		{"\x1b[1J", func(m *model) { m.erase(true, 1) }},
		{"\x1b[2J", func(m *model) { m.erase(true, 2) }},
		{"\x1b[3J", func(m *model) { m.onto() }},
		{"\x1b[1K", func(m *model) { m.erase(false, 1) }},
		{"\x1b[2K", func(m *model) { m.erase(false, 2) }},
	}
}

// others are tokens of attributes and OSCs, of broken bytes and escapes, and such as do nothing.
func others() []token {
	return []token{
		says("a", 'a'), says("b", 'b'), says("é", 'é'), says("国", '国'), says("\U0001F600", 0x1F600),
		says("\xff", 0xFFFD), says("\xe4\xb8q", 0xFFFD, 'q'), says("\xed\xa0", 0xFFFD, 0xFFFD), says("\xc1", 0xFFFD), says("\xf0\x9f\x98-", 0xFFFD, '-'),
		paints("\x1b[m", 0), paints("\x1b[7m", 7), paints("\x1b[1;0m", 0), paints("\x1b[300m", 44), paints("\x1b[99999m", 9999%256), paints("\x1b[1;2;3;4;5;6;7;8;9m", 8), paints("\x1b[;m", 0),
		paints("\x1b]lost\x1b[7m", 7), paints("\x1b[5\x1b[9m", 9), paints("\x1b\x1b[255m", 255),
		tells("\x1b]0;t\x07", "0;t"), tells("\x1b]\x07", ""), tells("\x1b]中\n\x1b\\", "中\n"), tells("\x1b]\xffu\x07", "\ufffdu"), tells("\x1b]a\x1bb\x1b]c\x07", "c"),
		idle("\u0301"), idle("\x00"), idle("\x07"), idle("\x7f"), idle("\u200b"), idle("\x1b7"), idle("\x1b[?25l"), idle("\x1b]no\x1bx"), idle("\x1b[5\n"), idle("\x1b]" + strings.Repeat("w", 4001) + "\x07"),
	}
}

// thrownTokens are n tokens, thrown by a die; most of them print.
func thrownTokens(die *rand.Rand, n int) []token {
	var out []token
	for range n {
		kinds := [][]token{fewTokens(), fewTokens()[:3], moves(), others()}
		all := kinds[die.Intn(len(kinds))]
		out = append(out, all[die.Intn(len(all))])
	}
	return out
}

// checkModel holds all that p tells against m.
func checkModel(t *testing.T, name string, p *pane.Pane, m *model) {
	t.Helper()
	check(t, name, p, m.state())
}

// feed writes a token to both.
func feed(t *testing.T, p *pane.Pane, m *model, x token) {
	t.Helper()
	told := p.Write(x.text)
	x.do(m)
	if want := m.take(); !slices.Equal(told, want) {
		t.Fatalf("%q: told are %q, not %q", x.text, told, want)
	}
}

// resizeBoth resizes both, holds them against one another, and holds R2.
func resizeBoth(t *testing.T, p *pane.Pane, m *model, w, h int) {
	t.Helper()
	was, lines, under := stateOf(p), p.Lines(), signUnder(p)
	p.Resize(w, h)
	tooMany := m.resize(w, h)
	name := was.text() + "\nto " + itoa(w) + ", " + itoa(h)
	checkModel(t, name, p, m)
	checkTail(t, name, lines, p.Lines(), m.w, tooMany)
	// In the first row it may stand for a place above the screen.
	if isSeen(under) && p.Screen().Cursor().Row > 0 && signUnder(p) != under {
		t.Fatalf("%s: R2: the cursor goes from %v to %v", name, under, signUnder(p))
	}
}

// signUnder is the sign at the cursor, also at its second half; none behind the last column.
func signUnder(p *pane.Pane) api.Cell {
	s := p.Screen()
	c := s.Cursor()
	cells := s.Rows()[c.Row].Cells
	switch {
	case c.Col == len(cells):
		return api.Cell{}
	case cells[c.Col].W == 0:
		return cells[c.Col-1]
	}
	return cells[c.Col]
}

// isSeen says whether c is neither a blank nor a Pad nor none.
func isSeen(c api.Cell) bool { return c.R != 0 && c.R != ' ' }

// checkTail holds R2: the lines behind a Resize are a tail of those ahead of it, and just as many rows are gone as were too many.
func checkTail(t *testing.T, name string, ahead, behind [][]api.Cell, w, tooMany int) {
	t.Helper()
	isTail := len(behind) <= len(ahead) && (tooMany > 0 || slices.EqualFunc(ahead, behind, slices.Equal))
	for i := 0; isTail && i < len(behind); i++ {
		whole := ahead[len(ahead)-len(behind)+i]
		gone := len(whole) - len(behind[i])
		isTail = gone == 0 || gone > 0 && i == 0
		isTail = isTail && slices.Equal(whole[gone:], behind[i])
	}
	if !isTail || high(behind, w) != max(high(ahead, w)-tooMany, 0) {
		t.Fatalf("%s: R2: %d rows are too many of the lines %v, then they are %v", name, tooMany, ahead, behind)
	}
}

// layOut lays lines out, w wide.
func layOut(ls [][]api.Cell, w int) []api.Row {
	y := layer{w: w}
	for _, l := range ls {
		y.begin()
		for _, c := range l {
			y.put(c)
		}
	}
	var out []api.Row
	for _, s := range y.rows {
		out = append(out, s.row())
	}
	return out
}

// high tells how many rows lines take, w wide.
func high(ls [][]api.Cell, w int) int { return len(layOut(ls, w)) }

// eachRun hands on all runs of so many tokens of all.
func eachRun(n int, all []token, use func(run []token)) {
	run := make([]token, n)
	var longer func(i int)
	longer = func(i int) {
		if i == n {
			use(run)
			return
		}
		for _, x := range all {
			run[i] = x
			longer(i + 1)
		}
	}
	longer(0)
}

// both are a pane and its model, to which a run was written.
func both(t *testing.T, w, h, limit int, run []token) (*pane.Pane, *model) {
	t.Helper()
	p, m := pane.New(w, h, limit), newModel(w, h, limit)
	for _, x := range run {
		feed(t, p, m, x)
	}
	return p, m
}

// checkThereAndBack resizes, goes on, and resizes to what was.
func checkThereAndBack(t *testing.T, p *pane.Pane, m *model, w, h int, then token) {
	t.Helper()
	wasW, wasH := p.Size()
	resizeBoth(t, p, m, w, h)
	feed(t, p, m, then)
	resizeBoth(t, p, m, wasW, wasH)
	feed(t, p, m, then)
	checkModel(t, "there and back", p, m)
}

// P12.1, P12.2, R2: all short runs on small panes of all limits, to all small sizes.
func TestAllShortRuns(t *testing.T) {
	then := fewTokens()
	n := 0
	eachRun(3, fewTokens(), func(run []token) {
		for _, size := range []api.Pos{at(1, 2), at(2, 2), at(1, 3), at(2, 3)} {
			for _, limit := range []int{0, 1, 9} {
				for w := 2; w <= 4; w++ {
					for h := 1; h <= 3; h++ {
						p, m := both(t, size.Col, size.Row, limit, run)
						checkThereAndBack(t, p, m, w, h, then[n%len(then)])
						n++
					}
				}
			}
		}
	})
}

// P12.1, P12.2, R2: all runs of five on a small pane.
func TestAllRunsOfFive(t *testing.T) {
	n := 0
	to := []api.Pos{at(1, 3), at(1, 2), at(2, 4), at(3, 3), at(2, 2), at(3, 2), at(1, 5)}
	eachRun(5, fewTokens(), func(run []token) {
		p, m := both(t, 3, 2, n%3, run)
		checkModel(t, "a run", p, m)
		resizeBoth(t, p, m, to[n%len(to)].Col, to[n%len(to)].Row)
		n++
	})
}

// P12.1: each token behind each other one, and a Resize behind that.
func TestTokensInTwos(t *testing.T) {
	all := slices.Concat(fewTokens(), moves(), others())
	begin := []token{says("x", 'x'), says("y", 'y'), says("中", '中'), says("z", 'z'), says("国", '国')}
	for _, a := range all {
		for _, b := range all {
			p, m := both(t, 4, 2, 1, begin)
			feed(t, p, m, a)
			checkModel(t, a.text, p, m)
			feed(t, p, m, b)
			checkModel(t, a.text+" and "+b.text, p, m)
			resizeBoth(t, p, m, 3, 3)
		}
	}
}

// thrownSize is a size, thrown by a die, seldom one that may not be.
func thrownSize(die *rand.Rand) (int, int) {
	switch die.Intn(12) {
	case 0:
		return die.Intn(305) - 2, die.Intn(5)
	case 1:
		return 2 + die.Intn(8), die.Intn(110) - 2
	}
	return 2 + die.Intn(12), 1 + die.Intn(6)
}

// thrownLimit is a limit, thrown by a die.
func thrownLimit(die *rand.Rand) int {
	return []int{-1, 0, 1, 2, 3, 7, 20, 100, 500, api.MaxLimit + 1}[die.Intn(10)]
}

// writeThrown writes tokens in thrown parts; between two of them, wherever that is, come other sizes and limits.
func writeThrown(t *testing.T, die *rand.Rand, p *pane.Pane, m *model, tokens []token) {
	t.Helper()
	text, ends := "", []int{}
	for _, x := range tokens {
		text += x.text
		ends = append(ends, len(text))
	}
	written, done := 0, 0
	for _, part := range cut(die, text) {
		told := p.Write(part)
		written += len(part)
		for ; done < len(ends) && ends[done] <= written; done++ {
			tokens[done].do(m)
		}
		if want := m.take(); !slices.Equal(told, want) {
			t.Fatalf("%q: told are %q, not %q", part, told, want)
		}
		checkModel(t, part, p, m)
		switch die.Intn(8) {
		case 0, 1:
			w, h := thrownSize(die)
			resizeBoth(t, p, m, w, h)
		case 2:
			n := thrownLimit(die)
			p.SetLimit(n)
			m.setLimit(n)
			checkModel(t, "SetLimit", p, m)
		}
	}
}

// P12.1, P12.2, R1, R2, R5: long thrown lists of Writes, Resizes and SetLimits.
func TestThrown(t *testing.T) {
	die := rand.New(rand.NewSource(23))
	for range 400 {
		w, h := thrownSize(die)
		limit := thrownLimit(die)
		p, m := pane.New(w, h, limit), newModel(w, h, limit)
		checkModel(t, "New", p, m)
		for range 4 {
			writeThrown(t, die, p, m, thrownTokens(die, 25))
		}
	}
}

// P12.1, P12.2, R5: runs of wide panes with long histories.
func TestThrownWide(t *testing.T) {
	die := rand.New(rand.NewSource(24))
	for _, size := range []api.Pos{at(1, 2), at(24, 80), at(100, 300), at(99, 3), at(5, 299)} {
		p, m := pane.New(size.Col, size.Row, 300), newModel(size.Col, size.Row, 300)
		for range 6 {
			for _, x := range thrownTokens(die, 700) {
				feed(t, p, m, x)
			}
			checkModel(t, "a run", p, m)
			resizeBoth(t, p, m, 2+die.Intn(299), 1+die.Intn(100))
		}
	}
}

// thrownBytes are n bytes, thrown by a die, many of which begin or end something.
func thrownBytes(die *rand.Rand, n int) string {
	const some = "\x1b\x1b[]]\x07\x07\\;;?019ABCDHJKmm\n\n\r\b\txyz \x00\xe4\xb8\xad\xe4\xb8\xad\xf0\x9f"
	var out []byte
	for range n {
		b := byte(die.Intn(256))
		if die.Intn(4) > 0 {
			b = some[die.Intn(len(some))]
		}
		out = append(out, b)
	}
	return string(out)
}

// byLayers tells the texts and the rows, with those that go out, of all that is whole in a text.
func byLayers(text string, w, h int) ([]string, []api.Row) {
	var told []string
	var rows []api.Row
	var parser esc.Parser
	s := screen.New(w, h)
	for _, r := range utf.All(text) {
		for _, e := range parser.Put(r) {
			if e.Kind == api.EOsc {
				told = append(told, e.Text)
			}
			rows = append(rows, s.Do(e)...)
		}
	}
	return told, append(rows, s.Rows()...)
}

// P12.1, R1, R5: whatever bytes come, in whatever parts.
func TestThrownBytes(t *testing.T) {
	die := rand.New(rand.NewSource(26))
	for range 1500 {
		// Behind a CR no byte waits for others.
		text := thrownBytes(die, die.Intn(150)) + "\r"
		w, h, limit := 2+die.Intn(9), 1+die.Intn(4), die.Intn(6)
		p := pane.New(w, h, limit)
		var told []string
		for _, part := range cut(die, text) {
			told = append(told, p.Write(part)...)
			checkLimits(t, text, p)
		}
		want, rows := byLayers(text, w, h)
		rows = rows[max(len(rows)-h-limit, 0):]
		if !slices.Equal(told, want) || !slices.EqualFunc(p.Rows(), rows, same) {
			t.Fatalf("%q: %q, %s, not %q, %s", text, told, show(p.Rows()), want, show(rows))
		}
		lines := p.Lines()
		p.Resize(thrownSize(die))
		checkLimits(t, text, p)
		if got := p.Lines(); p.History() < limit && !slices.EqualFunc(got, lines, slices.Equal) {
			t.Fatalf("%q: R2: the lines %v, then %v", text, lines, got)
		}
	}
}

// R2: there and back again, over several sizes, the lines are the same, and at each width they are the same rows.
func TestNothingIsLost(t *testing.T) {
	die := rand.New(rand.NewSource(25))
	for range 150 {
		w, h := thrownSize(die)
		p, m := both(t, w, h, 100000, thrownTokens(die, 60))
		lines := p.Lines()
		// Another height lays all out once.
		resizeBoth(t, p, m, m.w, m.h%100+1)
		for range 12 {
			toW, toH := thrownSize(die)
			resizeBoth(t, p, m, toW, toH)
			laid := layOut(lines, m.w)
			if got := p.Rows(); !slices.EqualFunc(got[:len(laid)], laid, same) {
				t.Fatalf("R2: the rows are %s, not %s", show(got), show(laid))
			}
		}
		resizeBoth(t, p, m, w, h)
		if !slices.EqualFunc(p.Lines(), lines, slices.Equal) {
			t.Fatalf("R2: the lines %v, then %v", lines, p.Lines())
		}
	}
}

// P0.1: a history as long as a common one, there and back again.
func TestLongHistory(t *testing.T) {
	const many = 5000
	p := pane.New(80, 24, many)
	p.Write(strings.Repeat("abcdefgh\r\n", many+24))
	if p.History() != many {
		t.Fatalf("%d rows, not %d", p.History(), many)
	}
	p.Resize(5, 24)
	// The limit holds as many rows as before, each line takes two, and the last row is blank.
	if lines := p.Lines(); p.History() != many || len(lines) != (many+24)/2 {
		t.Fatalf("%d rows, %d lines", p.History(), len(lines))
	}
	p.Resize(80, 24)
	if lines := p.Lines(); p.History() != (many+24)/2+1-24 || len(lines) != (many+24)/2 {
		t.Fatalf("%d rows, %d lines", p.History(), len(lines))
	}
	p.Write(strings.Repeat("x", 80*many))
	p.Resize(2, 1)
	if lines := p.Lines(); p.History() != many || len(lines) != 1 || len(lines[0]) != 2*(many+1) {
		t.Fatalf("%d rows, %d lines", p.History(), len(lines))
	}
}
