package pane_test

import (
	"math/rand"
	"slices"
	"strings"
	"testing"

	"rotulus/api"
	"rotulus/pane"
)

// written is a text, and what a pane tells behind it.
type written struct {
	w, h, limit int
	text        string
	history     int
	rows        string
	cursor      api.Pos
	attr        int
	told        []string
}

// state is what the pane tells of itself.
func (x written) state() state {
	return state{x.history, readAll(x.rows), x.cursor, x.attr, x.w, x.h, x.limit}
}

// texts are texts of all kinds.
func texts() []written {
	return []written{
		// Nothing, plain text, the right edge.
		{3, 2, 9, "", 0, ".../...", at(0, 0), 0, nil},
		{3, 2, 9, "a", 0, "a../...", at(0, 1), 0, nil},
		{3, 2, 9, "abc", 0, "abc/...", at(0, 3), 0, nil},
		{3, 2, 9, "abcd", 0, "abc|/d..", at(1, 1), 0, nil},
		{3, 2, 9, "a b ", 0, "a.b|/...", at(1, 1), 0, nil},
		{3, 2, 9, "abcdefgh", 1, "abc|/def|/gh.", at(1, 2), 0, nil},
		{2, 1, 9, "abcde", 2, "ab|/cd|/e.", at(0, 1), 0, nil},
		// Line feeds and the other controls.
		{3, 2, 9, "a\nb", 0, "a../.b.", at(1, 2), 0, nil},
		{3, 2, 9, "a\r\nb", 0, "a../b..", at(1, 1), 0, nil},
		{3, 2, 9, "abc\nd", 0, "abc/..d", at(1, 3), 0, nil},
		{3, 2, 9, "a\r\nb\r\nc", 1, "a../b../c..", at(1, 1), 0, nil},
		{3, 2, 9, "\n\n\n", 2, ".../.../.../...", at(1, 0), 0, nil},
		{3, 2, 9, "ab\bx\rc", 0, "cx./...", at(0, 1), 0, nil},
		{9, 1, 9, "a\tb\x00\x07\x0b\x7fc", 1, "a.......b|/c........", at(0, 1), 0, nil},
		// Wide signs at the edge and elsewhere.
		{3, 2, 9, "a中", 0, "a中/...", at(0, 3), 0, nil},
		{3, 2, 9, "ab中", 0, "ab_|/中.", at(1, 2), 0, nil},
		{3, 1, 9, "中国中", 2, "中_|/国_|/中.", at(0, 2), 0, nil},
		{2, 2, 9, "中国中", 1, "中|/国|/中", at(1, 2), 0, nil},
		{4, 1, 9, "中国\b\bx", 0, "中x.", at(0, 3), 0, nil},
		{4, 1, 9, "中国\rx", 0, "x.国", at(0, 1), 0, nil},
		// Signs of no width.
		{3, 2, 9, "e\u0301\u200b\ufe0f", 0, "e../...", at(0, 1), 0, nil},
		{3, 2, 9, "abc\u0301", 0, "abc/...", at(0, 3), 0, nil},
		// Bytes that are no signs.
		{4, 1, 9, "\xffa\x80", 0, "\ufffda\ufffd.", at(0, 3), 0, nil},
		{4, 1, 9, "\xe4\xb8a", 0, "\ufffda..", at(0, 2), 0, nil},
		{4, 1, 9, "\xe4\xb8\xe4\xb8\xad", 0, "\ufffd中.", at(0, 3), 0, nil},
		{4, 1, 9, "\xed\xa0\x80", 0, "\ufffd\ufffd\ufffd.", at(0, 3), 0, nil},
		{4, 1, 9, "\xc0\xaf", 0, "\ufffd\ufffd..", at(0, 2), 0, nil},
		{4, 1, 9, "a\xe4\xb8", 0, "a...", at(0, 1), 0, nil},
		{4, 1, 9, "a\x00\xe4\x00b", 0, "a\ufffdb.", at(0, 3), 0, nil},
		{4, 1, 9, "\xe4\x1b[7mA", 0, "\ufffdA..", at(0, 2), 7, nil},
		// Escapes.
		{3, 2, 9, "\x1b[7mA\x1b[mb\x1b[263mC", 0, "AbC/...", at(0, 3), 7, nil},
		{3, 2, 9, "\x1b[1;2;7mA", 0, "A../...", at(0, 1), 7, nil},
		{3, 2, 9, "\x1b[7m \x1b[m ", 0, "~../...", at(0, 2), 0, nil},
		{3, 2, 9, "\x1b[7m界", 0, "界./...", at(0, 2), 7, nil},
		{3, 2, 9, "abcd\x1b[Hx", 0, "xbc|/d..", at(0, 1), 0, nil},
		{3, 2, 9, "abcd\x1b[A\x1b[2Cx", 0, "abx|/d..", at(0, 3), 0, nil},
		{3, 2, 9, "abcd\x1b[1;1H\x1b[K", 0, ".../d..", at(0, 0), 0, nil},
		{3, 2, 9, "abcd\x1b[J", 0, "abc|/d..", at(1, 1), 0, nil},
		{3, 2, 9, "abcd\x1b[2J", 0, ".../...", at(1, 1), 0, nil},
		{3, 2, 9, "abc\r\nd\r\ne\x1b[2J", 1, "abc/.../...", at(1, 1), 0, nil},
		{3, 2, 9, "a\x1bcb\x1b[?25lc", 0, "abc/...", at(0, 3), 0, nil},
		{3, 2, 9, "a\x1b[5\rb\x1b[5\x1b[7mC", 0, "abC/...", at(0, 3), 7, nil},
		{4, 1, 9, "\x1b[7\x00ma\x1b\x00b", 0, "mab.", at(0, 3), 0, nil},
		// OSCs.
		{3, 2, 9, "a\x1b]0;t\x07b", 0, "ab./...", at(0, 2), 0, []string{"0;t"}},
		{3, 2, 9, "\x1b]one\x1b\\\x1b]\x07\x1b]中\x07", 0, ".../...", at(0, 0), 0, []string{"one", "", "中"}},
		{3, 2, 9, "\x1b]b\x07\x1b]a\x07x\x1b]b\x07", 0, "x../...", at(0, 1), 0, []string{"b", "a", "b"}},
		{3, 2, 9, "\x1b]\xff\xe4\x07", 0, ".../...", at(0, 0), 0, []string{"\ufffd\ufffd"}},
		{3, 2, 9, "\x1b]a\n\x00b\x07", 0, ".../...", at(0, 0), 0, []string{"a\n\x00b"}},
		{3, 2, 9, "\x1b]lost\x1b[7mA\x1b]lost", 0, "A../...", at(0, 1), 7, nil},
		{3, 2, 9, "\x1b]lost\x1bxa", 0, "a../...", at(0, 1), 0, nil},
		{3, 1, 0, "\x1b]" + strings.Repeat("x", 4000) + "\x07", 0, "...", at(0, 0), 0, []string{strings.Repeat("x", 4000)}},
		{3, 1, 0, "\x1b]" + strings.Repeat("x", 4001) + "\x07a", 0, "a..", at(0, 1), 0, nil},
		{3, 1, 0, "\x1b]" + strings.Repeat("中", 1333) + "y\x07", 0, "...", at(0, 0), 0, []string{strings.Repeat("中", 1333) + "y"}},
		{3, 1, 0, "\x1b]" + strings.Repeat("中", 1333) + "yz\x07", 0, "...", at(0, 0), 0, nil},
		// What goes out, with limits.
		{3, 2, 0, "a\r\nb\r\nc\r\nd", 0, "c../d..", at(1, 1), 0, nil},
		{3, 2, 1, "a\r\nb\r\nc\r\nd", 1, "b../c../d..", at(1, 1), 0, nil},
		{3, 2, 2, "a\r\nb\r\nc\r\nd", 2, "a../b../c../d..", at(1, 1), 0, nil},
		{3, 2, 3, "a\r\nb\r\nc\r\nd", 2, "a../b../c../d..", at(1, 1), 0, nil},
		{3, 2, 2, "a\r\nb\r\nc\r\nd\r\ne\r\nf\r\ng", 2, "d../e../f../g..", at(1, 1), 0, nil},
		{2, 1, 2, "abcdefghi", 2, "ef|/gh|/i.", at(0, 1), 0, nil},
		{2, 1, 1, "abcde\x1b]t\x07\r\n", 1, "e./..", at(0, 0), 0, []string{"t"}},
		{2, 2, 5, "\x1b[7mABCD\x1b[m\r\n\r\n", 2, "AB|/CD/../..", at(1, 0), 0, nil},
	}
}

// P12.1: Write of whole texts, written out.
func TestWrite(t *testing.T) {
	for _, x := range texts() {
		p := pane.New(x.w, x.h, x.limit)
		if told := p.Write(x.text); !slices.Equal(told, x.told) {
			t.Errorf("%q: told are %q, not %q", x.text, told, x.told)
		}
		check(t, x.text, p, x.state())
	}
}

// readLines makes lines of a text, with a / between two; of an empty text none.
func readLines(s string) [][]api.Cell {
	if s == "" {
		return nil
	}
	var out [][]api.Cell
	for _, r := range readAll(s) {
		out = append(out, signsOf(r, len(r.Cells)))
	}
	return out
}

// P12.1: Lines, written out: without the empty ones at the end, across the edge of store and screen, of what is left of a line that began ahead of the limit.
func TestLines(t *testing.T) {
	for _, x := range []struct {
		w, h, limit int
		text        string
		want        string
	}{
		{3, 2, 9, "", ""},
		{3, 2, 9, "\r\n\r\n\r\n", ""},
		{3, 2, 9, "   \r\n   ", ""},
		{3, 2, 9, "a\x1b[K\b\x1b[K", ""},
		{3, 5, 9, "a", "a"},
		{3, 5, 9, "a\r\n\r\nb\r\n\r\n", "a//b"},
		{3, 5, 9, "\r\na", "/a"},
		{3, 1, 9, "\r\n\r\na\r\n\r\n", "//a"},
		{3, 5, 9, "a  ", "a"},
		{3, 5, 9, " a b", ".a.b"},
		{3, 5, 9, "a\x1b[7m ", "a~"},
		{3, 5, 9, "\x1b[7m ", "~"},
		{3, 5, 9, "a\r\n\x1b[7m ", "a/~"},
		{3, 5, 9, "\x1b[3B", ""},
		{3, 5, 9, "\x1b[3Ba", "///a"},
		{3, 5, 9, "abcdef", "abcdef"},
		{3, 5, 9, "abcdefgh\r\ni", "abcdefgh/i"},
		{3, 5, 9, "abc\r\ndef", "abc/def"},
		{3, 5, 9, "ab中c", "ab中c"},
		{3, 1, 9, "ab中c", "ab中c"},
		{3, 1, 9, "中国中", "中国中"},
		// One line in both, one in the store alone, one cut by the screen's edge just there.
		{3, 1, 9, "abcdefgh", "abcdefgh"},
		{3, 2, 9, "abcdefghijkl", "abcdefghijkl"},
		{3, 2, 9, "abcdef\r\nghi\r\njklm", "abcdef/ghi/jklm"},
		{3, 1, 9, "abcdef\r\n", "abcdef"},
		{3, 1, 9, "abc   ", "abc"},
		{3, 1, 9, "abc   d", "abc...d"},
		// Too many rows: what is left of the line is one.
		{3, 1, 0, "abcdefgh", "gh"},
		{3, 1, 1, "abcdefgh", "defgh"},
		{3, 1, 2, "abcdefgh", "abcdefgh"},
		{3, 1, 1, "abcdefgh\r\n", "gh"},
		{3, 1, 1, "abcdefgh\r\n\r\n", ""},
		{3, 1, 1, "abc   \r\n", ""},
		{3, 2, 0, "ab中\r\nc", "中/c"},
		// A line that goes on and of which the rest is erased.
		{3, 3, 9, "abcd\b\x1b[K", "abc"},
		{3, 3, 9, "abcd\r\ne\x1b[2;1H\x1b[K", "abc/e"},
		{3, 3, 9, "abcd\x1b[1;2H\x1b[1K", "..cd"},
		{3, 3, 9, "abcd\x1b[1;3H\x1b[1K", "/d"},
		{3, 3, 9, "abcd\x1b[1;3H\x1b[K", "ab/d"},
	} {
		p := made(x.w, x.h, x.limit, x.text)
		if got, want := p.Lines(), readLines(x.want); !slices.EqualFunc(got, want, slices.Equal) {
			t.Errorf("%q: the lines of %s are %v, not %v", x.text, show(p.Rows()), got, want)
		}
	}
}

// numbered are the rows of a pane to which lines 0 to n-1 were written, and a line feed behind each.
func numbered(n, w, h, limit int) state {
	var all []api.Row
	for i := range n {
		r := read(itoa(i))
		all = append(all, api.Row{Cells: append(r.Cells, gaps(w-len(r.Cells))...)})
	}
	row := min(n, h-1)
	all = append(all, blankRows(w, h-row)...)
	history := min(len(all)-h, limit)
	return state{history: history, rows: all[len(all)-h-history:], cursor: at(row, 0), w: w, h: h, most: limit}
}

// P12.1: row by row: how many History counts, that the eldest go, that they come in order, at limits of none, few and many.
func TestHistory(t *testing.T) {
	for _, limit := range []int{0, 1, 2, 3, 15, 16, 17, 33, 1000} {
		for _, h := range []int{1, 2, 5} {
			p := pane.New(4, h, limit)
			for n := range 60 {
				check(t, "line by line", p, numbered(n, 4, h, limit))
				p.Write(itoa(n) + "\r\n")
			}
		}
	}
}

// P12.1: rows that go out by one Write are as many as may be.
func TestManyRowsAtOnce(t *testing.T) {
	var text strings.Builder
	for n := range 3000 {
		text.WriteString(itoa(n) + "\r\n")
	}
	for _, limit := range []int{0, 1, 2500, 2901, 2902, 5000} {
		p := pane.New(5, 100, limit)
		p.Write(text.String())
		check(t, "many rows", p, numbered(3000, 5, 100, limit))
	}
}

// P12.1: the greatest limit there may be is kept.
func TestGreatestLimit(t *testing.T) {
	p := pane.New(2, 1, 2*api.MaxLimit)
	p.Write("a\r\nb\r\n")
	p.Write(strings.Repeat("\n", api.MaxLimit-1))
	if p.History() != api.MaxLimit {
		t.Fatalf("%d rows", p.History())
	}
	rows := p.Rows()
	if len(rows) != api.MaxLimit+1 || !same(rows[0], read("b.")) {
		t.Fatalf("%d rows, the first is %s", len(rows), show(rows[:1]))
	}
}

// P12.1: SetLimit that falls, rises, falls below the least: the eldest go, and what is gone does not come back.
func TestSetLimit(t *testing.T) {
	const w, h = 3, 2
	all := numbered(20, w, h, 100)
	for _, from := range []int{0, 1, 5, 19, 20, 100} {
		for _, limit := range sides(0, api.MaxLimit) {
			p := pane.New(w, h, from)
			p.Write("0\r\n1\r\n2\r\n3\r\n4\r\n5\r\n6\r\n7\r\n8\r\n9\r\n10\r\n11\r\n12\r\n13\r\n14\r\n15\r\n16\r\n17\r\n18\r\n19\r\n")
			p.SetLimit(limit.given)
			want := all
			want.history, want.most = min(all.history, from, limit.taken), limit.taken
			want.rows = all.rows[all.history-want.history:]
			check(t, "SetLimit", p, want)
		}
	}
	p := pane.New(w, h, 9)
	p.Write("0\r\n1\r\n2\r\n3\r\n4\r\n5")
	for _, x := range []struct {
		limit, history int
		rows           string
	}{
		{4, 4, "0../1../2../3../4../5.."}, {3, 3, "1../2../3../4../5.."}, {9, 3, "1../2../3../4../5.."}, {3, 3, "1../2../3../4../5.."},
		{1, 1, "3../4../5.."}, {2, 1, "3../4../5.."}, {-5, 0, "4../5.."}, {7, 0, "4../5.."},
	} {
		p.SetLimit(x.limit)
		check(t, "SetLimit", p, state{x.history, readAll(x.rows), at(1, 1), 0, w, h, max(x.limit, 0)})
	}
	p.Write("\r\n6\r\n7")
	check(t, "behind SetLimit", p, state{2, readAll("4../5../6../7.."), at(1, 1), 0, w, h, 7})
	p.SetLimit(1)
	p.Write("\r\n8")
	check(t, "behind SetLimit", p, state{1, readAll("6../7../8.."), at(1, 1), 0, w, h, 1})
}

// P12.1: SetLimit cuts the rows of one line as others: what is left is its line.
func TestSetLimitInALine(t *testing.T) {
	p := made(3, 1, 9, "abcdefgh")
	for limit, want := range []string{"gh", "defgh", "abcdefgh"} {
		q := made(3, 1, 9, "abcdefgh")
		q.SetLimit(limit)
		if got := q.Lines(); !slices.EqualFunc(got, readLines(want), slices.Equal) {
			t.Errorf("limit %d: the lines %v", limit, got)
		}
	}
	check(t, "another pane", p, state{2, readAll("abc|/def|/gh."), at(0, 2), 0, 3, 1, 9})
}

// cut parts a text, thrown by a die.
func cut(die *rand.Rand, text string) []string {
	var out []string
	for text != "" {
		n := 1 + die.Intn(len(text))
		if die.Intn(2) == 0 {
			n = min(1+die.Intn(4), len(text))
		}
		out, text = append(out, text[:n]), text[n:]
		if die.Intn(5) == 0 {
			out = append(out, "")
		}
	}
	return out
}

// writeParts writes parts, one behind the other, and tells all that was told.
func writeParts(p *pane.Pane, parts []string) []string {
	var told []string
	for _, s := range parts {
		told = append(told, p.Write(s)...)
	}
	return told
}

// checkParts holds a text in parts against the text in one Write.
func checkParts(t *testing.T, x written, parts []string) {
	t.Helper()
	whole, p := pane.New(x.w, x.h, x.limit), pane.New(x.w, x.h, x.limit)
	want, got := whole.Write(x.text), writeParts(p, parts)
	if !slices.Equal(got, want) {
		t.Fatalf("%q: told are %q, not %q", parts, got, want)
	}
	check(t, "in parts", p, stateOf(whole))
	// What waits is the same too: it shows by what comes behind it.
	for _, s := range []string{"\xad", "m", "\x07", "\\", "x"} {
		if got, want := p.Write(s), whole.Write(s); !slices.Equal(got, want) {
			t.Fatalf("%q, and then %q: told are %q, not %q", parts, s, got, want)
		}
		check(t, "behind parts", p, stateOf(whole))
	}
}

// P12.1: what is unfinished waits for the next Write: each text in one Write, byte by byte, cut in two at each place, and in drawn parts.
func TestParts(t *testing.T) {
	die := rand.New(rand.NewSource(12))
	for _, x := range texts() {
		checkParts(t, x, strings.Split(x.text, ""))
		if len(x.text) > 1000 {
			x.text = x.text[:4] + x.text[len(x.text)-4:]
		}
		var bytes []string
		for i := range len(x.text) {
			bytes = append(bytes, x.text[i:i+1])
			checkParts(t, x, []string{x.text[:i], x.text[i:]})
			checkParts(t, x, []string{x.text[:i], "", "", x.text[i:], ""})
		}
		checkParts(t, x, bytes)
		for range 20 {
			checkParts(t, x, cut(die, x.text))
		}
	}
}

// P12.1: what waits, and what it tells when it is whole, written out.
func TestWaits(t *testing.T) {
	p := pane.New(6, 1, 0)
	for _, x := range []struct {
		text string
		row  string
		col  int
		attr int
		told []string
	}{
		{"\xe4", "......", 0, 0, nil}, {"\xb8", "......", 0, 0, nil}, {"", "......", 0, 0, nil}, {"\xad", "中....", 2, 0, nil},
		{"\xf0\x9f", "中....", 2, 0, nil}, {"a", "中\ufffda..", 4, 0, nil}, {"\r\x1b", "中\ufffda..", 0, 0, nil}, {"[", "中\ufffda..", 0, 0, nil},
		{"", "中\ufffda..", 0, 0, nil}, {"3;", "中\ufffda..", 0, 0, nil}, {"7m", "中\ufffda..", 0, 7, nil}, {"A", "A.\ufffda..", 1, 7, nil},
		{"\x1b]0", "A.\ufffda..", 1, 7, nil}, {";\xe4\xb8", "A.\ufffda..", 1, 7, nil}, {"\xadx", "A.\ufffda..", 1, 7, nil}, {"\x07B\x1b]", "AB\ufffda..", 2, 7, []string{"0;中x"}},
		{"y\x1b", "AB\ufffda..", 2, 7, nil}, {"\\", "AB\ufffda..", 2, 7, []string{"y"}}, {"\x1b]z\x1b", "AB\ufffda..", 2, 7, nil}, {"[", "AB\ufffda..", 2, 7, nil}, {"K", "AB....", 2, 7, nil},
	} {
		if told := p.Write(x.text); !slices.Equal(told, x.told) {
			t.Fatalf("%q: told are %q, not %q", x.text, told, x.told)
		}
		check(t, x.text, p, state{0, readAll(x.row), at(0, x.col), x.attr, 6, 1, 0})
	}
}
