package pane_test

import (
	"math"
	"slices"
	"strings"
	"testing"

	"rotulus/api"
	"rotulus/pane"
)

// resized is a text, another size, and what a pane tells behind it.
type resized struct {
	w, h, limit int
	text        string
	toW, toH    int
	history     int
	rows        string
	cursor      api.Pos
}

// checkResized writes the text, resizes, and holds what the pane tells against what is wanted.
func checkResized(t *testing.T, all ...resized) {
	t.Helper()
	for _, x := range all {
		p := made(x.w, x.h, x.limit, x.text)
		attr := p.Screen().Attr()
		p.Resize(x.toW, x.toH)
		name := x.text + " to " + itoa(x.toW) + ", " + itoa(x.toH)
		check(t, name, p, state{x.history, readAll(x.rows), x.cursor, attr, nearest(x.toW, 2, 300), nearest(x.toH, 1, 100), x.limit})
	}
}

// P12.2: the lines are laid out anew, at any width and height.
func TestResize(t *testing.T) {
	eight, four := "abcdefgh", "a\r\nb\r\nc\r\nd"
	checkResized(t, []resized{
		// Nothing was written.
		{3, 2, 9, "", 4, 2, 0, "..../....", at(0, 0)}, {3, 2, 9, "", 3, 1, 0, "...", at(0, 0)}, {3, 2, 9, "", 2, 3, 0, "../../..", at(0, 0)},
		// One column more and fewer, one row more and fewer, several.
		{3, 2, 9, eight, 4, 2, 0, "abcd|/efgh", at(1, 4)}, {3, 2, 9, eight, 2, 2, 2, "ab|/cd|/ef|/gh", at(1, 2)}, {3, 2, 9, eight, 9, 2, 0, "abcdefgh./.........", at(0, 8)},
		{3, 2, 9, eight, 3, 3, 0, "abc|/def|/gh.", at(2, 2)}, {3, 2, 9, eight, 3, 1, 2, "abc|/def|/gh.", at(0, 2)}, {3, 2, 9, eight, 3, 5, 0, "abc|/def|/gh./.../...", at(2, 2)},
		{3, 2, 9, four, 3, 4, 0, "a../b../c../d..", at(3, 1)}, {3, 2, 9, four, 3, 3, 1, "a../b../c../d..", at(2, 1)}, {3, 2, 9, four, 3, 1, 3, "a../b../c../d..", at(0, 1)},
		{3, 2, 9, four, 4, 2, 2, "a.../b.../c.../d...", at(1, 1)}, {3, 2, 9, four, 2, 2, 2, "a./b./c./d.", at(1, 1)}, {3, 2, 9, four, 2, 9, 0, "a./b./c./d./../../../../..", at(3, 1)},
		{3, 3, 9, "abc\r\nde", 2, 3, 0, "ab|/c./de", at(2, 2)}, {3, 3, 9, "abc\r\nde", 2, 2, 1, "ab|/c./de", at(1, 2)}, {3, 3, 9, "abc\r\nde", 4, 3, 0, "abc./de../....", at(1, 2)},
		// Sizes that may not be.
		{3, 2, 9, eight, 1, 0, 3, "ab|/cd|/ef|/gh", at(0, 2)}, {3, 2, 9, eight, -1, 2, 2, "ab|/cd|/ef|/gh", at(1, 2)}, {3, 2, 9, eight, 4, -7, 1, "abcd|/efgh", at(0, 4)}, {3, 2, 9, eight, math.MinInt, math.MinInt, 3, "ab|/cd|/ef|/gh", at(0, 2)},
		// Wide signs at the edge, ahead and behind.
		{4, 2, 9, "ab中国", 3, 2, 1, "ab_|/中_|/国.", at(1, 2)}, {4, 2, 9, "ab中国", 5, 2, 0, "ab中_|/国...", at(1, 2)}, {4, 2, 9, "ab中国", 6, 2, 0, "ab中国/......", at(0, 6)}, {4, 2, 9, "ab中国", 2, 2, 1, "ab|/中|/国", at(1, 2)},
		{4, 2, 9, "a中国", 5, 2, 0, "a中国/.....", at(0, 5)}, {4, 2, 9, "a中国", 2, 2, 1, "a_|/中|/国", at(1, 2)},
		// Blanks and attributes of a line stay, but for the Blanks at its end.
		{3, 2, 9, "a  \r\n  b", 5, 2, 0, "a..../..b..", at(1, 3)}, {3, 2, 9, "a    b", 2, 3, 0, "a.|/..|/.b", at(2, 2)}, {3, 2, 9, "\x1b[7mAB  界", 2, 3, 0, "AB|/~~|/界", at(2, 2)}, {3, 2, 9, "\x1b[7mA \x1b[m ", 2, 2, 0, "A~/..", at(0, 1)},
		// A line that goes on in a row that was erased.
		{3, 3, 9, "abcd\b\x1b[K", 3, 2, 0, "abc/...", at(0, 3)}, {3, 3, 9, "abcd\b\x1b[K", 4, 3, 0, "abc./..../....", at(0, 3)}, {3, 3, 9, "abcd\b\x1b[K", 2, 3, 0, "ab|/c./..", at(1, 1)},
		// One that goes on behind the last row that counts.
		{3, 3, 9, "abcd\b\x1b[K\x1b[A", 2, 2, 0, "ab|/c.", at(0, 0)},
	}...)
}

// P12.2: the greatest size, from the least and back.
func TestResizeToTheEnds(t *testing.T) {
	signs := strings.Repeat("abcdefghij", 62)
	for _, to := range []api.Pos{at(100, 300), at(101, 301), at(math.MaxInt, math.MaxInt), at(1<<32, 1<<32)} {
		p := made(2, 1, 1000, signs)
		p.Resize(to.Col, to.Row)
		rows := []api.Row{read(signs[:300] + "|"), read(signs[300:600] + "|"), {Cells: append(read(signs[600:]).Cells, gaps(280)...)}}
		check(t, "the greatest", p, state{rows: append(rows, blankRows(300, 97)...), cursor: at(2, 20), w: 300, h: 100, most: 1000})
		p.Resize(-to.Col, -to.Row)
		check(t, "the least", p, stateOf(made(2, 1, 1000, signs)))
	}
}

// P12.2: the size that there is turns nothing at all, not even rows that would be laid out otherwise.
func TestResizeToTheSizeThatThereIs(t *testing.T) {
	stays := func(name string, p *pane.Pane, w, h int) {
		t.Helper()
		before := stateOf(p)
		p.Resize(w, h)
		check(t, name, p, before)
	}
	for _, x := range texts() {
		stays(x.text, made(x.w, x.h, x.limit, x.text), x.w, x.h)
	}
	for _, text := range []string{"abcd\b\x1b[K", "abcd\b\x1b[K\x1b[A", "a\x1b[3;3H", "ab中\x1b[1;1H\x1b[1K", "ab中\x1b[1;3H", "abcdef\x1b[1;3Hx", "   d\b\x1b[K\x1b[H", "a\r\nb\r\nc\r\nd\x1b[H"} {
		stays(text, made(3, 3, 9, text), 3, 3)
	}
	for _, n := range []int{2, 1, 0, -1, -300, math.MinInt} {
		stays("the least width", made(2, 3, 9, "abcd\b\x1b[K\x1b[A"), n, 3)
	}
	for _, n := range []int{1, 0, -1, -100, math.MinInt} {
		stays("the least height", made(3, 1, 9, "abcd\r\ne\b\x1b[2C"), 3, n)
	}
	for _, n := range []int{300, 301, 600, 1 << 32, 1<<32 + 2, math.MaxInt} {
		stays("the greatest width", made(300, 3, 9, strings.Repeat("a", 301)+"\b\x1b[K\x1b[A"), n, 3)
	}
	for _, n := range []int{100, 101, 200, 1 << 32, 1<<32 + 1, math.MaxInt} {
		stays("the greatest height", made(3, 100, 9, strings.Repeat("\n", 105)+"abcd\b\x1b[K\x1b[A"), 3, n)
	}
}

// P12.2: where the cursor goes.
func TestResizeCursor(t *testing.T) {
	three, wides, six := "ab\r\ncd\r\nef", "a中国", "abcdef"
	checkResized(t, []resized{
		// In the first row, which goes out at the top, or does not.
		{3, 3, 9, three + "\x1b[H", 3, 2, 1, "ab./cd./ef.", at(0, 0)}, {3, 3, 9, three + "\x1b[H", 3, 1, 2, "ab./cd./ef.", at(0, 0)}, {3, 3, 9, three + "\x1b[1;2H", 3, 1, 2, "ab./cd./ef.", at(0, 1)}, {3, 3, 9, three + "\x1b[1;3H", 3, 2, 1, "ab./cd./ef.", at(0, 2)},
		{3, 3, 9, three + "\x1b[1;3Hx", 3, 1, 2, "abx/cd./ef.", at(0, 3)}, {3, 3, 9, three + "\x1b[1;2H", 4, 4, 0, "ab../cd../ef../....", at(0, 1)}, {3, 3, 9, three + "\x1b[1;2H", 3, 4, 0, "ab./cd./ef./...", at(0, 1)},
		{3, 3, 9, "abc\r\nde\r\nf\x1b[1;3H", 2, 3, 1, "ab|/c./de/f.", at(0, 0)}, {3, 3, 9, "abc\r\nde\r\nf\x1b[1;2H", 2, 3, 1, "ab|/c./de/f.", at(0, 1)}, {3, 3, 9, "abc\r\nde\r\nf\x1b[1;3H", 2, 2, 2, "ab|/c./de/f.", at(0, 0)}, {3, 3, 9, "abc\r\nde\r\nf\x1b[1;3H", 2, 4, 0, "ab|/c./de/f.", at(1, 0)},
		// Above the screen, in a row that the limit drives out.
		{3, 3, 0, three + "\x1b[1;2H", 3, 1, 0, "ef.", at(0, 1)}, {3, 3, 1, three + "\x1b[1;2H", 3, 1, 1, "cd./ef.", at(0, 1)},
		// In the middle and in the last row.
		{3, 3, 9, three + "\x1b[2;2H", 3, 2, 1, "ab./cd./ef.", at(0, 1)}, {3, 3, 9, three + "\x1b[2;2H", 5, 5, 0, "ab.../cd.../ef.../...../.....", at(1, 1)}, {3, 3, 9, three + "\r", 3, 1, 2, "ab./cd./ef.", at(0, 0)},
		// In a blank row below all text: at its column, up to the last one.
		{3, 3, 9, "ab\r\n", 3, 1, 1, "ab./...", at(0, 0)}, {3, 3, 9, "ab\r\n", 5, 5, 0, "ab.../...../...../...../.....", at(1, 0)}, {3, 3, 9, "ab\x1b[3;2H", 4, 2, 1, "ab../..../....", at(1, 1)}, {3, 3, 9, "ab\x1b[3;3H", 2, 2, 1, "ab/../..", at(1, 1)}, {3, 3, 9, "ab\x1b[3;3H", 9, 3, 0, "ab......./........./.........", at(2, 2)}, {3, 3, 9, "\x1b[3;3H", 3, 1, 2, ".../.../...", at(0, 2)},
		// In Blanks behind the text of its row.
		{9, 2, 9, "ab\x1b[1;6H", 4, 2, 0, "ab../....", at(0, 3)}, {9, 2, 9, "ab\x1b[1;6H", 7, 2, 0, "ab...../.......", at(0, 5)}, {9, 2, 9, "abcd\x1b[1;6H", 2, 2, 0, "ab|/cd", at(1, 1)}, {9, 2, 9, "abcde\x1b[1;9H", 3, 2, 0, "abc|/de.", at(1, 2)},
		// Behind the last column.
		{3, 2, 9, "abc", 5, 2, 0, "abc../.....", at(0, 3)}, {3, 2, 9, "abc", 2, 2, 0, "ab|/c.", at(1, 1)}, {3, 2, 9, "abc", 3, 1, 0, "abc", at(0, 3)}, {3, 2, 9, six, 6, 2, 0, "abcdef/......", at(0, 6)}, {3, 2, 9, six, 2, 2, 1, "ab|/cd|/ef", at(1, 2)}, {3, 2, 9, "ab ", 5, 2, 0, "ab.../.....", at(0, 3)}, {3, 2, 9, "ab ", 2, 2, 0, "ab/..", at(0, 1)},
		// At a wide sign, its second half, and at the Pad.
		{4, 2, 9, wides + "\x1b[2;1H", 5, 2, 0, "a中国/.....", at(0, 3)}, {4, 2, 9, wides + "\x1b[2;2H", 5, 2, 0, "a中国/.....", at(0, 3)}, {4, 2, 9, wides + "\x1b[1;3H", 5, 2, 0, "a中国/.....", at(0, 1)}, {4, 2, 9, wides + "\x1b[1;4H", 5, 2, 0, "a中国/.....", at(0, 3)},
		{4, 2, 9, wides + "\x1b[2;1H", 3, 3, 0, "a中|/国./...", at(1, 0)}, {4, 2, 9, wides + "\x1b[1;3H", 3, 3, 0, "a中|/国./...", at(0, 1)}, {4, 2, 9, wides + "\x1b[1;4H", 3, 3, 0, "a中|/国./...", at(1, 0)},
		{4, 2, 9, wides + "\x1b[2;2H", 2, 3, 0, "a_|/中|/国", at(2, 0)}, {4, 2, 9, wides + "\x1b[1;2H", 2, 3, 0, "a_|/中|/国", at(1, 0)}, {4, 2, 9, wides + "\x1b[1;4H", 2, 2, 1, "a_|/中|/国", at(1, 0)}, {4, 2, 9, wides + "\x1b[1;1H", 2, 2, 1, "a_|/中|/国", at(0, 0)}, {4, 2, 9, wides + "\x1b[1;4H", 4, 1, 1, "a中_|/国..", at(0, 0)},
		// In a row that goes on, ahead of its end and behind it.
		{3, 2, 9, six + "\x1b[1;2H", 2, 3, 0, "ab|/cd|/ef", at(0, 1)}, {3, 2, 9, six + "\x1b[1;3H", 2, 3, 0, "ab|/cd|/ef", at(1, 0)}, {3, 2, 9, six + "\x1b[1;3H", 6, 2, 0, "abcdef/......", at(0, 2)}, {3, 2, 9, six + "\x1b[1;3Hx", 6, 2, 0, "abxdef/......", at(0, 3)}, {3, 2, 9, six + "\x1b[1;3Hx", 3, 3, 0, "abx|/def/...", at(1, 0)},
		// In a line that began in what has gone out.
		{3, 1, 9, "abcdefgh", 4, 1, 1, "abcd|/efgh", at(0, 4)}, {3, 1, 9, "abcdefgh\r", 4, 1, 1, "abcd|/efgh", at(0, 2)}, {3, 1, 9, "abcdefgh\r", 9, 2, 0, "abcdefgh./.........", at(0, 6)}, {3, 1, 9, "x\r\nabcdefgh\r", 5, 2, 1, "x..../abcde|/fgh..", at(1, 1)},
	}...)
}

// P12.2: rows below the cursor count up to the last one that is not blank.
func TestResizeRowsBelowTheCursor(t *testing.T) {
	checkResized(t, []resized{
		{3, 3, 9, "ab\r\ncd\x1b[H", 3, 1, 1, "ab./cd.", at(0, 0)}, {3, 4, 9, "a\x1b[3;1Hb\x1b[H", 3, 2, 1, "a../.../b..", at(0, 0)}, {3, 4, 9, "\x1b[4;3Hb\x1b[H", 3, 1, 3, ".../.../.../..b", at(0, 0)},
		// One with nothing but a blank of an attribute counts.
		{3, 3, 9, "ab\r\n\x1b[7m \x1b[H", 3, 1, 1, "ab./~..", at(0, 0)}, {3, 3, 9, "ab\x1b[3;3H\x1b[7m \x1b[H", 3, 1, 2, "ab./.../..~", at(0, 0)},
		// Blanks and rows that were erased don't.
		{3, 3, 9, "a\x1b[H", 3, 1, 0, "a..", at(0, 0)}, {3, 3, 9, "a\r\n \x1b[H", 3, 1, 0, "a..", at(0, 0)}, {3, 3, 9, "a\r\nb\r\nc\b\x1b[K\x1b[H", 3, 1, 1, "a../b..", at(0, 0)}, {3, 3, 9, "a\r\nb\x1b[1;2H\x1b[J", 3, 1, 0, "a..", at(0, 1)}, {3, 3, 9, "a\r\nb\x1b[2J\x1b[2;2H", 3, 1, 1, ".../...", at(0, 1)},
		// A blank one that goes on counts; the one behind it does not.
		{3, 4, 9, "a\r\n   d\b\x1b[K\x1b[H", 3, 1, 1, "a../...", at(0, 0)}, {3, 4, 9, "a\r\n   d\b\x1b[K\x1b[H", 3, 3, 0, "a../.../...", at(0, 0)}, {3, 4, 9, "   d\b\x1b[K\x1b[H", 3, 1, 0, "...", at(0, 0)},
		// The cursor's own counts, blank or not, and all those ahead of it.
		{3, 3, 9, "\x1b[2B", 3, 1, 2, ".../.../...", at(0, 0)}, {3, 3, 9, "\x1b[2B", 2, 2, 1, "../../..", at(1, 0)}, {3, 3, 9, "a\x1b[2;3H", 2, 2, 0, "a./..", at(1, 1)}, {3, 3, 9, "a\x1b[2;3H", 3, 1, 1, "a../...", at(0, 2)},
	}...)
}

// P12.2: the limit holds: the eldest rows go, and they do not come back.
func TestResizeWithinTheLimit(t *testing.T) {
	eight, four := "abcdefgh", "a\r\nb\r\nc\r\nd"
	checkResized(t, []resized{
		{3, 4, 0, four, 3, 2, 0, "c../d..", at(1, 1)}, {3, 4, 1, four, 3, 2, 1, "b../c../d..", at(1, 1)}, {3, 4, 2, four, 3, 2, 2, "a../b../c../d..", at(1, 1)}, {3, 4, 3, four, 3, 2, 2, "a../b../c../d..", at(1, 1)}, {3, 4, 1, four, 3, 1, 1, "c../d..", at(0, 1)},
		{3, 2, 1, eight, 2, 2, 1, "cd|/ef|/gh", at(1, 2)}, {3, 3, 0, eight, 2, 3, 0, "cd|/ef|/gh", at(2, 2)}, {3, 3, 0, eight, 2, 1, 0, "gh", at(0, 2)}, {3, 3, 0, eight, 9, 3, 0, "abcdefgh./........./.........", at(0, 8)},
		// What is the store's comes to a screen that is higher; what was gone before is gone.
		{3, 2, 9, four, 3, 9, 0, "a../b../c../d../.../.../.../.../...", at(3, 1)}, {3, 2, 1, four, 3, 9, 0, "b../c../d../.../.../.../.../.../...", at(2, 1)}, {3, 2, 0, four, 3, 4, 0, "c../d../.../...", at(1, 1)}, {3, 2, 0, eight, 9, 2, 0, "defgh..../.........", at(0, 5)},
	}...)
	p := made(3, 4, 1, four)
	p.Resize(3, 1)
	p.SetLimit(9)
	p.Resize(3, 4)
	check(t, "what is gone", p, state{0, readAll("c../d../.../..."), at(1, 1), 0, 3, 4, 9})
	p.Write("\r\ne\r\nf\r\ng")
	check(t, "and goes on", p, state{1, readAll("c../d../e../f../g.."), at(3, 1), 0, 3, 4, 9})
}

// P12.2: behind a Resize the pane goes on where its cursor is, with its attribute.
func TestWriteBehindResize(t *testing.T) {
	for _, x := range []struct {
		w, h     int
		text     string
		toW, toH int
		then     string
		history  int
		rows     string
		cursor   api.Pos
		attr     int
	}{
		{3, 2, "\x1b[7mAB", 5, 2, "C\x1b[md", 0, "ABCd./.....", at(0, 4), 0},
		{3, 2, "\x1b[7mABCDEFGH", 4, 2, "I", 1, "ABCD|/EFGH|/I...", at(1, 1), 7},
		{3, 2, "abc", 5, 2, "defg", 0, "abcde|/fg...", at(1, 2), 0},
		{3, 2, "abcdef", 6, 1, "g", 1, "abcdef|/g.....", at(0, 1), 0},
		{3, 2, "a\r\nb", 3, 1, "\r\nc\r\n", 3, "a../b../c../...", at(0, 0), 0},
		{3, 2, "a\r\nb\r\n", 3, 4, "c\r\nd\r\ne", 1, "a../b../c../d../e..", at(3, 1), 0},
		{3, 3, "ab\r\ncd\r\nef\x1b[1;2H", 3, 1, "x\r\ny", 3, "ab./cd./ex./y..", at(0, 1), 0},
		{4, 1, "a中国\x1b[1;2H", 5, 1, "x", 0, "a中x.", at(0, 4), 0},
	} {
		p := made(x.w, x.h, 9, x.text)
		p.Resize(x.toW, x.toH)
		p.Write(x.then)
		check(t, x.text+" and "+x.then, p, state{x.history, readAll(x.rows), x.cursor, x.attr, x.toW, x.toH, 9})
	}
}

// P12.2: a sequence that waits and an escape that waits stay, over several sizes; so does the attribute.
func TestResizeKeepsWhatWaits(t *testing.T) {
	for _, x := range [][2]string{
		{"\xe4", "\xb8\xad"}, {"\xe4\xb8", "\xad"}, {"\xf0\x9f\x98", "\x80"}, {"\xe4\xb8", "a"}, {"\xe4", "\xe4\xb8\xad"}, {"\xc3", "\xa9\x1b[m"},
		{"\x1b", "[9mA"}, {"\x1b[", "9mA"}, {"\x1b[1;2", "3;9mA"}, {"\x1b[?2", "5lA"}, {"\x1b[2;2", "HA"}, {"\x1b", "cA"}, {"\x1b[5", "\x1b[mA"},
		{"\x1b]", "0;t\x07A"}, {"\x1b]0;t", "\x07A"}, {"\x1b]0;\xe4\xb8", "\xad\x1b\\A"}, {"\x1b]0;t\x1b", "\\A"}, {"\x1b]0;t\x1b", "[9mA"}, {"\x1b]" + strings.Repeat("x", 3999), "y\x07A"}, {"\x1b]" + strings.Repeat("x", 4000), "y\x07A"},
	} {
		for _, text := range []string{"", "abcd\r\n", "\x1b[255mab中\x1b[H"} {
			p, q := made(3, 2, 9, text+x[0]), made(3, 2, 9, text)
			for _, size := range []api.Pos{at(2, 4), at(2, 4), at(1, 7), at(3, 2), at(9, 9), at(2, 3)} {
				p.Resize(size.Col, size.Row)
				q.Resize(size.Col, size.Row)
				check(t, "ahead of "+x[1], p, stateOf(q))
			}
			if got, want := p.Write(x[1]), q.Write(x[0]+x[1]); !slices.Equal(got, want) {
				t.Fatalf("%q, Resize, %q: told are %q, not %q", x[0], x[1], got, want)
			}
			check(t, "behind "+x[1], p, stateOf(q))
		}
	}
}
