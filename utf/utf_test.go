package utf_test

import (
	"slices"
	"strings"
	"testing"
	"unicode/utf8"

	"rotulus/api"
	"rotulus/utf"
)

const bad = api.Bad

// edges are bytes at both sides of each bound that a byte of a sequence may have.
var edges = []byte{
	0x00, 'a', 0x7F, 0x80, 0x8F, 0x90, 0x9F, 0xA0, 0xBF, 0xC0, 0xC1, 0xC2, 0xDF,
	0xE0, 0xE1, 0xEC, 0xED, 0xEE, 0xEF, 0xF0, 0xF1, 0xF3, 0xF4, 0xF5, 0xF8, 0xFF,
}

// unfinished says whether s is the beginning of a well formed sequence, and not all of it.
func unfinished(s string) bool {
	return s != "" && !utf8.FullRuneInString(s)
}

// model tells the signs of s by the library's reading of whole sequences: it and the program share no code.
// What it tells second is how many bytes at the end of s wait.
func model(s string) ([]rune, int) {
	var out []rune
	for s != "" {
		if unfinished(s) {
			return append(out, bad), len(s)
		}
		if r, n := utf8.DecodeRuneInString(s); r != bad || n > 1 {
			out, s = append(out, r), s[n:]
			continue
		}
		n := 1
		for unfinished(s[:n]) && unfinished(s[:n+1]) {
			n++
		}
		out, s = append(out, bad), s[n:]
	}
	return out, 0
}

// check holds All, Put, Waits and End for s against the model.
func check(t *testing.T, s string) {
	t.Helper()
	want, _ := model(s)
	if got := utf.All(s); !slices.Equal(got, want) {
		t.Fatalf("All(%q) = %x, not %x", s, got, want)
	}
	var r utf.Reader
	var told []rune
	for i := range len(s) {
		told = append(told, r.Put(s[i])...)
		sofar, waits := model(s[:i+1])
		if waits > 0 {
			sofar = sofar[:len(sofar)-1]
		}
		if !slices.Equal(told, sofar) || r.Waits() != waits {
			t.Fatalf("%q, byte %d: told %x, %d wait, not %x, %d", s, i, told, r.Waits(), sofar, waits)
		}
	}
	told = append(told, r.End()...)
	if !slices.Equal(told, want) || r.Waits() != 0 || len(r.End()) != 0 {
		t.Fatalf("%q: with End %x, not %x; %d wait", s, told, want, r.Waits())
	}
}

// strew calls f with all texts of n bytes out of these.
func strew(bytes []byte, n int, f func(string)) {
	text := make([]byte, n)
	var fill func(int)
	fill = func(i int) {
		if i == n {
			f(string(text))
			return
		}
		for _, b := range bytes {
			text[i] = b
			fill(i + 1)
		}
	}
	fill(0)
}

// P1.1: ordinary texts.
func TestOrdinaryTexts(t *testing.T) {
	for _, s := range []string{
		"", "a", "rotulus\r\n", "\x00\x1b[1m\x7f", "gr\u00fc\u00dfe", "\u0416\u05d0\u0e01",
		"\u20ac 5 \u6f22\u5b57", "\ufffd", "\ufeffbom", "e\u0301", "\U0001f600\U0001f468\u200d\U0001f469",
		strings.Repeat("a\u00e9\u20ac\U0001f600", 5000),
	} {
		if got := utf.All(s); !slices.Equal(got, []rune(s)) {
			t.Errorf("All(%.40q) = %.200x", s, got)
		}
		if got := utf.Write(utf.All(s)); got != s {
			t.Errorf("Write(All(%.40q)) = %.40q", s, got)
		}
	}
}

// P1.1: the edges that the chapter names, each with what it asks written out.
func TestEdges(t *testing.T) {
	for _, x := range []struct {
		name, text string
		want       []rune
	}{
		{"least of two bytes", "\xc2\x80", []rune{0x80}},
		{"greatest of two bytes", "\xdf\xbf", []rune{0x7FF}},
		{"least of three bytes", "\xe0\xa0\x80", []rune{0x800}},
		{"ahead of D800", "\xed\x9f\xbf", []rune{0xD7FF}},
		{"behind DFFF", "\xee\x80\x80", []rune{0xE000}},
		{"FFFD itself", "\xef\xbf\xbd", []rune{0xFFFD}},
		{"greatest of three bytes", "\xef\xbf\xbf", []rune{0xFFFF}},
		{"least of four bytes", "\xf0\x90\x80\x80", []rune{0x10000}},
		{"greatest of all", "\xf4\x8f\xbf\xbf", []rune{0x10FFFF}},

		{"two bytes, too long for 0", "\xc0\x80", []rune{bad, bad}},
		{"two bytes, too long for 7F", "\xc1\xbf", []rune{bad, bad}},
		{"three bytes, too long for 7FF", "\xe0\x9f\xbf", []rune{bad, bad, bad}},
		{"four bytes, too long for FFFF", "\xf0\x8f\xbf\xbf", []rune{bad, bad, bad, bad}},
		{"D800", "\xed\xa0\x80", []rune{bad, bad, bad}},
		{"DFFF", "\xed\xbf\xbf", []rune{bad, bad, bad}},
		{"a pair of halves", "\xed\xa0\xbd\xed\xb8\x80", []rune{bad, bad, bad, bad, bad, bad}},
		{"110000", "\xf4\x90\x80\x80", []rune{bad, bad, bad, bad}},
		{"five bytes", "\xf8\x88\x80\x80\x80", []rune{bad, bad, bad, bad, bad}},
		{"six bytes", "\xfc\x84\x80\x80\x80\x80", []rune{bad, bad, bad, bad, bad, bad}},

		{"a later byte first", "\x80", []rune{bad}},
		{"a later byte behind a sign", "\xc3\xa9\xa9", []rune{0xE9, bad}},
		{"F5", "\xf5", []rune{bad}},
		{"FE, FF", "\xfe\xff", []rune{bad, bad}},

		{"ASCII behind one that waits", "\xc3a", []rune{bad, 'a'}},
		{"ASCII behind two that wait", "\xe2\x82a", []rune{bad, 'a'}},
		{"ASCII behind three that wait", "\xf0\x9f\x98a", []rune{bad, 'a'}},
		{"an escape behind two that wait", "\xe2\x82\x1b", []rune{bad, 0x1B}},
		{"one that can't begin behind two that wait", "\xe2\x82\xff", []rune{bad, bad}},
		{"a later byte that can't be the second", "\xe0\x80\xa0", []rune{bad, bad, bad}},
		{"a sequence behind one that waits", "\xe2\xc3\xa9", []rune{bad, 0xE9}},
		{"a sequence behind three that wait", "\xf0\x9f\x98\xe2\x82\xac", []rune{bad, 0x20AC}},
		{"the same byte again", "\xe2\xe2\xe2\x82\xac", []rune{bad, bad, 0x20AC}},
		{"one breaks off into another that does", "\xe2\x82\xf0\x9f\x98", []rune{bad, bad}},

		{"the end while one waits", "a\xc3", []rune{'a', bad}},
		{"the end while two wait", "a\xe2\x82", []rune{'a', bad}},
		{"the end while three wait", "a\xf0\x9f\x98", []rune{'a', bad}},
	} {
		if got := utf.All(x.text); !slices.Equal(got, x.want) {
			t.Errorf("%s: All(%q) = %x, not %x", x.name, x.text, got, x.want)
		}
		check(t, x.text)
	}
}

// P1.1: all texts of up to two bytes, and all of up to four, and more, at the bounds.
func TestAllShortTexts(t *testing.T) {
	every := make([]byte, 256)
	for i := range every {
		every[i] = byte(i)
	}
	for n := range 3 {
		strew(every, n, func(s string) { check(t, s) })
	}
	strew(edges, 3, func(s string) { check(t, s) })
	strew(edges, 4, func(s string) {
		want, _ := model(s)
		if got := utf.All(s); !slices.Equal(got, want) {
			t.Fatalf("All(%q) = %x, not %x", s, got, want)
		}
	})
	// Of the longest ones each byte has a turn at each place.
	for _, whole := range []string{"\xf0\x90\x80\x80", "\xf3\xbf\xbf\xbf", "\xf4\x80\x80\x80", "\xe0\xa0\x80", "\xed\x80\x80"} {
		for i := range len(whole) {
			for _, b := range every {
				check(t, whole[:i]+string([]byte{b})+whole[i+1:]+"a")
			}
		}
	}
}

// P1.1: each sign that there is goes out and comes back.
func TestEverySign(t *testing.T) {
	for r := rune(0); r <= 0x10FFFF; r++ {
		want := r
		if 0xD800 <= r && r <= 0xDFFF {
			want = bad
		}
		s := utf.Write([]rune{r})
		if s != string(utf8.AppendRune(nil, want)) {
			t.Fatalf("Write(%x) = %q", r, s)
		}
		if got := utf.All(s); len(got) != 1 || got[0] != want {
			t.Fatalf("All(Write(%x)) = %x", r, got)
		}
	}
}

// P1.1: long texts of bytes that come out of a fixed row of numbers.
func TestLongTexts(t *testing.T) {
	seed := uint64(1)
	below := func(n int) int {
		seed = seed*6364136223846793005 + 1442695040888963407
		return int(seed>>33) % n
	}
	for range 200 {
		text := make([]byte, below(300))
		for i := range text {
			text[i] = edges[below(len(edges))]
			if below(4) == 0 {
				text[i] = byte(below(256))
			}
		}
		check(t, string(text))
	}
}

// P1.1: what Put tells, byte by byte, and how many wait.
func TestPutAndWaits(t *testing.T) {
	var r utf.Reader
	if r.Waits() != 0 || len(r.End()) != 0 {
		t.Error("a new Reader waits")
	}
	for i, x := range []struct {
		b     byte
		want  []rune
		waits int
	}{
		{'a', []rune{'a'}, 0},
		{0xF4, nil, 1}, {0x8F, nil, 2}, {0xBF, nil, 3}, {0xBF, []rune{0x10FFFF}, 0},
		{0x80, []rune{bad}, 0},
		{0xF4, nil, 1}, {0x90, []rune{bad, bad}, 0},
		{0xE0, nil, 1}, {0x9F, []rune{bad, bad}, 0},
		{0xE0, nil, 1}, {0xE0, []rune{bad}, 1}, {0xA0, nil, 2}, {0x0A, []rune{bad, 0x0A}, 0},
		{0xC2, nil, 1}, {0xC1, []rune{bad, bad}, 0},
		{0xF0, nil, 1}, {0x90, nil, 2}, {0xED, []rune{bad}, 1}, {0x9F, nil, 2}, {0xBF, []rune{0xD7FF}, 0},
	} {
		if got := r.Put(x.b); !slices.Equal(got, x.want) || r.Waits() != x.waits {
			t.Errorf("%d: Put(%x) = %x, %d wait; not %x, %d", i, x.b, got, r.Waits(), x.want, x.waits)
		}
	}
}

// P1.1: End tells one FFFD of what waits, however much, and the Reader goes on as a new one.
func TestEnd(t *testing.T) {
	var r utf.Reader
	for _, s := range []string{"\xc3", "\xe2\x82", "\xf0\x9f\x98", "\xf0", "\xed\x9f"} {
		for i := range len(s) {
			r.Put(s[i])
		}
		if r.Waits() != len(s) {
			t.Errorf("%q: %d wait", s, r.Waits())
		}
		if got := r.End(); !slices.Equal(got, []rune{bad}) || r.Waits() != 0 {
			t.Errorf("%q: End = %x, %d wait", s, got, r.Waits())
		}
		if got := r.End(); len(got) != 0 {
			t.Errorf("%q: End once more = %x", s, got)
		}
		if got := r.Put(0x80); !slices.Equal(got, []rune{bad}) {
			t.Errorf("%q: a later byte behind End: %x", s, got)
		}
		if got := r.Put('a'); !slices.Equal(got, []rune{'a'}) {
			t.Errorf("%q: a byte behind End: %x", s, got)
		}
	}
}

// P1.1: signs that may not be, wherever they stand, are FFFD in Write.
func TestWriteOfWrongSigns(t *testing.T) {
	for _, r := range []rune{-1, -0x80000000, -0xFFFD, 0xD800, 0xDBFF, 0xDC00, 0xDFFF, 0x110000, 0x1FFFFF, 0x200041, 0x7FFFFFFF} {
		if got := utf.Write([]rune{'a', r, 0x20AC}); got != "a\ufffd\u20ac" {
			t.Errorf("Write of %x: %q", r, got)
		}
	}
	if got := utf.Write([]rune{0xD83D, 0xDE00}); got != "\ufffd\ufffd" {
		t.Errorf("Write of two halves: %q", got)
	}
}

// P1.1: a nil Reader; P0.1, P0.4: empty texts and lists.
func TestNothing(t *testing.T) {
	var none *utf.Reader
	for b := range 256 {
		if none.Put(byte(b)) != nil {
			t.Errorf("nil: Put(%x) tells something", b)
		}
	}
	if none.End() != nil || none.Waits() != 0 {
		t.Error("nil: End or Waits tells something")
	}
	if len(utf.All("")) != 0 || utf.Write(nil) != "" || utf.Write([]rune{}) != "" {
		t.Error("of nothing comes something")
	}
}

// P0.3: a list that is handed in stays as it was, and answers share nothing with one another or with the Reader.
func TestMemory(t *testing.T) {
	rs := []rune{'a', -1, 0xD800, 'b', 'c'}
	kept := slices.Clone(rs)
	s := utf.Write(rs[:3])
	if !slices.Equal(rs, kept) {
		t.Errorf("Write changed its list: %x", rs)
	}
	clear(rs)
	if s != "a\ufffd\ufffd" {
		t.Errorf("Write kept its list: %q", s)
	}

	var r utf.Reader
	r.Put(0xE2)
	first := r.Put('a')
	second := r.Put('b')
	r.Put(0xE2)
	third := r.End()
	spoil(first)
	if !slices.Equal(second, []rune{'b'}) || !slices.Equal(third, []rune{bad}) {
		t.Errorf("answers share memory: %x, %x", second, third)
	}
	spoil(second)
	spoil(third)
	r.Put(0xE2)
	r.Put(0x82)
	if got := r.Put(0xAC); !slices.Equal(got, []rune{0x20AC}) {
		t.Errorf("the Reader shares memory with an answer: %x", got)
	}
	one, other := utf.All("a\xe2"), utf.All("a\xe2")
	spoil(one)
	if !slices.Equal(other, []rune{'a', bad}) {
		t.Errorf("answers of All share memory: %x", other)
	}
}

// spoil writes over a list and its spare room.
func spoil(rs []rune) {
	rs = rs[:cap(rs)]
	for i := range rs {
		rs[i] = 'X'
	}
}

// P0.5: two Readers know nothing of one another.
func TestTwoReaders(t *testing.T) {
	var a, b utf.Reader
	a.Put(0xE2)
	b.Put(0xF0)
	a.Put(0x82)
	b.Put(0x9F)
	if got := a.Put(0xAC); !slices.Equal(got, []rune{0x20AC}) {
		t.Errorf("the one: %x", got)
	}
	b.Put(0x98)
	if got := b.Put(0x80); !slices.Equal(got, []rune{0x1F600}) {
		t.Errorf("the other: %x", got)
	}
}
