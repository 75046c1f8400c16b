package esc_test

import (
	"math"
	"math/rand"
	"slices"
	"strings"
	"testing"

	"rotulus/api"
	"rotulus/esc"
)

// wrong are signs that may not be.
var wrong = []rune{-1, -7, -27, -0x5B, -0xFFFD, math.MinInt32, 0xD800, 0xDBFF, 0xDC00, 0xDFFF, 0x110000, 0x110041, math.MaxInt32}

// wide are signs of two, three and four bytes.
var wide = []rune{0x80, 0x9B, 0x9D, 0xE9, 0x7FF, 0x800, 0x20AC, 0x4E2D, 0xFF1B, 0xFFFD, 0xFFFF, 0x10000, 0x1F600, 0x10FFFF}

// seen are the events of signs that print.
func seen(s string) []api.Event {
	var out []api.Event
	for _, r := range s {
		out = append(out, api.Event{Kind: api.EPrint, R: r})
	}
	return out
}

// ctrl is the event of a control.
func ctrl(r rune) []api.Event { return []api.Event{{Kind: api.ECtrl, R: r}} }

// csi is the event of a CSI.
func csi(last rune, args ...int) []api.Event {
	return []api.Event{{Kind: api.ECsi, R: last, Args: args}}
}

// osc is the event of an OSC.
func osc(text string) []api.Event { return []api.Event{{Kind: api.EOsc, Text: text}} }

// all puts lists of events behind one another.
func all(lists ...[]api.Event) []api.Event { return slices.Concat(lists...) }

// alike says whether a and b are the same event in every field; no number at all may be nil or empty.
func alike(a, b api.Event) bool {
	return a.Kind == b.Kind && a.R == b.R && a.Text == b.Text && slices.Equal(a.Args, b.Args)
}

// feed puts l into p and holds each answer, and Quiet behind each sign, against the model. It tells the events.
func feed(t *testing.T, name string, p *esc.Parser, l []rune) []api.Event {
	t.Helper()
	var told []api.Event
	for i, x := range model(l) {
		got := p.Put(l[i])
		var want []api.Event
		if x.event.Kind != 0 {
			want = append(want, x.event)
		}
		if !slices.EqualFunc(got, want, alike) || p.Quiet() != x.quiet {
			t.Fatalf("%s: %.40q, sign %d (%x): %+v, quiet %v; not %+v, %v", name, string(l), i, l[i], got, p.Quiet(), want, x.quiet)
		}
		told = append(told, got...)
	}
	return told
}

// check holds that a new parser tells just these events of l, and is at rest behind it; it is then told the same again, and sees a sign behind it.
func check(t *testing.T, name string, l []rune, want []api.Event) {
	t.Helper()
	var p esc.Parser
	if !p.Quiet() {
		t.Fatalf("%s: the zero value is not at rest", name)
	}
	for range 2 {
		if got := feed(t, name, &p, l); !slices.EqualFunc(got, want, alike) {
			t.Errorf("%s: of %.80q %.200v, not %.200v", name, string(l), got, want)
		}
		if !p.Quiet() {
			t.Errorf("%s: behind %.80q it is not at rest", name, string(l))
		}
	}
	if got := p.Put('z'); !slices.EqualFunc(got, seen("z"), alike) {
		t.Errorf("%s: a sign behind %.80q: %v", name, string(l), got)
	}
}

// checkText is check of a text.
func checkText(t *testing.T, name, s string, want []api.Event) {
	t.Helper()
	check(t, name, []rune(s), want)
}

// with is a text, and a sign that may be of any kind, and a text.
func with(before string, r rune, behind string) []rune {
	return slices.Concat([]rune(before), []rune{r}, []rune(behind))
}

// strew calls f with all lists of n signs out of these, behind the signs of head; f is not to keep them.
func strew(head string, signs []rune, n int, f func([]rune)) {
	l := append([]rune(head), make([]rune, n)...)
	var fill func(int)
	fill = func(i int) {
		if i == len(l) {
			f(l)
			return
		}
		for _, r := range signs {
			l[i] = r
			fill(i + 1)
		}
	}
	fill(len(l) - n)
}

// P7.1: at rest, each sign that there is, and many that may not be.
func TestRest(t *testing.T) {
	var p esc.Parser
	hold := func(r rune) {
		var want []api.Event
		switch {
		case r == 8, r == 9, r == 10, r == 13:
			want = ctrl(r)
		case r >= 32 && r <= 126, r >= 128:
			want = []api.Event{{Kind: api.EPrint, R: r}}
		}
		if got := p.Put(r); !slices.EqualFunc(got, want, alike) || !p.Quiet() {
			t.Errorf("at rest %x: %v, quiet %v", r, got, p.Quiet())
		}
	}
	for r := rune(-300); r <= 0x110100; r++ {
		if r != 27 {
			hold(r)
		}
	}
	for _, r := range wrong {
		hold(r)
	}
	if got := p.Put(27); len(got) != 0 || p.Quiet() {
		t.Errorf("at rest an escape: %v, quiet %v", got, p.Quiet())
	}
}

// P7.1: ordinary texts.
func TestOrdinary(t *testing.T) {
	checkText(t, "nothing", "", nil)
	checkText(t, "signs", "ab\u00e9\u4e2d\U0001f600", seen("ab\u00e9\u4e2d\U0001f600"))
	checkText(t, "lines", "a\r\nb\b\t", all(seen("a"), ctrl(13), ctrl(10), seen("b"), ctrl(8), ctrl(9)))
	checkText(t, "a colour", "\x1b[1;31mred\x1b[0m", all(csi('m', 1, 31), seen("red"), csi('m', 0)))
	checkText(t, "a title", "a\x1b]0;t\u00eftle\x07b", all(seen("a"), osc("0;t\u00eftle"), seen("b")))
	checkText(t, "what is taken", "\x1b]52;c;YQ==\x1b\\", osc("52;c;YQ=="))
	checkText(t, "a mode", "a\x1b[?25lb", seen("ab"))
	checkText(t, "sequences", "\x1b[2J\x1b[H\x1b]0;x\x07\x1b7\x1b[K", all(csi('J', 2), csi('H'), osc("0;x"), csi('K')))
	checkText(t, "brackets at rest", "[1m]a\\;", seen("[1m]a\\;"))
}

// P7.1: behind an escape, each sign of one byte, wide ones and wrong ones.
func TestBehindEscape(t *testing.T) {
	others := slices.Concat(wide, wrong)
	for r := rune(-2); r < 128; r++ {
		if r != '[' && r != ']' && r != 27 {
			others = append(others, r)
		}
	}
	for _, r := range others {
		check(t, "behind an escape", with("\x1b", r, ""), nil)
		check(t, "behind two", with("\x1b\x1b", r, "[1m"), seen("[1m"))
	}
	checkText(t, "escapes, then a CSI", "\x1b\x1b\x1b\x1b[4A", csi('A', 4))
	checkText(t, "escapes, then an OSC", "\x1b\x1b]a\x07", osc("a"))
	checkText(t, "a control, then signs", "\x1b\n[m", seen("[m"))
	checkText(t, "a backslash", "\x1b\\a", seen("a"))
	for _, s := range []string{"\x1b", "\x1b\x1b", "\x1b[", "\x1b]", "\x1b[;", "\x1b]\x1b"} {
		var p esc.Parser
		if got := feed(t, "unfinished", &p, []rune(s)); len(got) != 0 || p.Quiet() {
			t.Errorf("%q: %v, quiet %v", s, got, p.Quiet())
		}
	}
}

// P7.1: how many numbers a CSI has.
func TestHowManyNumbers(t *testing.T) {
	for s, want := range map[string][]int{
		"":            nil,
		"7":           {7},
		"1;2":         {1, 2},
		"1;22;333;4":  {1, 22, 333, 4},
		";":           {0, 0},
		";;":          {0, 0, 0},
		";5":          {0, 5},
		"5;":          {5, 0},
		"5;;6":        {5, 0, 6},
		";5;;6;":      {0, 5, 0, 6, 0},
		"1;2;3;4;5;6": {1, 2, 3, 4, 5, 6},

		"1;2;3;4;5;6;7":       {1, 2, 3, 4, 5, 6, 7},
		"1;2;3;4;5;6;7;":      {1, 2, 3, 4, 5, 6, 7, 0},
		"1;2;3;4;5;6;7;8":     {1, 2, 3, 4, 5, 6, 7, 8},
		"1;2;3;4;5;6;7;8;":    {1, 2, 3, 4, 5, 6, 7, 8},
		"1;2;3;4;5;6;7;8;9":   {1, 2, 3, 4, 5, 6, 7, 8},
		"1;2;3;4;5;6;7;8;;9":  {1, 2, 3, 4, 5, 6, 7, 8},
		"1;2;3;4;5;6;7;80;91": {1, 2, 3, 4, 5, 6, 7, 80},
		";;;;;;;":             {0, 0, 0, 0, 0, 0, 0, 0},
		";;;;;;;;":            {0, 0, 0, 0, 0, 0, 0, 0},
		";;;;;;;;5":           {0, 0, 0, 0, 0, 0, 0, 0},
		";;;;;;;5;6":          {0, 0, 0, 0, 0, 0, 0, 5},

		strings.Repeat("3;", 99) + "4": {3, 3, 3, 3, 3, 3, 3, 3},
		strings.Repeat(";", 100000):    {0, 0, 0, 0, 0, 0, 0, 0},
	} {
		checkText(t, "numbers", "\x1b["+s+"m", csi('m', want...))
		checkText(t, "numbers, others behind them", "\x1b["+s+"H\x1b[m\x1b[3J", all(csi('H', want...), csi('m'), csi('J', 3)))
	}
}

// P7.1: how great a number is, at each place.
func TestHowGreatNumbers(t *testing.T) {
	for s, want := range map[string]int{
		"0": 0, "00": 0, "000000000000": 0, "1": 1, "01": 1, "0000000000000000000000042": 42,
		"9": 9, "10": 10, "99": 99, "100": 100, "999": 999, "1000": 1000, "1234567": 9999,
		"9998": 9998, "9999": 9999, "09999": 9999, "10000": 9999, "10001": 9999, "00010000": 9999, "99990": 9999, "99999": 9999, "100000": 9999,
		"32768": 9999, "65536": 9999, "65537": 9999, "2147483648": 9999, "4294967296": 9999, "4294967297": 9999,
		"9223372036854775807": 9999, "9223372036854775808": 9999, "18446744073709551616": 9999, "18446744073709551617": 9999,
		"1" + strings.Repeat("0", 99): 9999, strings.Repeat("9", 100): 9999, strings.Repeat("0", 99) + "5": 5, strings.Repeat("7", 100000): 9999,
	} {
		checkText(t, "a number", "\x1b["+s+"A", csi('A', want))
		checkText(t, "in front", "\x1b["+s+";6A", csi('A', want, 6))
		checkText(t, "at the end", "\x1b[6;"+s+"A", csi('A', 6, want))
		checkText(t, "the eighth", "\x1b[;;;;;;;"+s+"A", csi('A', 0, 0, 0, 0, 0, 0, 0, want))
		checkText(t, "the ninth", "\x1b[;;;;;;;6;"+s+"A", csi('A', 0, 0, 0, 0, 0, 0, 0, 6))
	}
	for n := range 12000 {
		want := csi('d', min(n, 9999))
		var p esc.Parser
		if got := feed(t, "each number", &p, []rune("\x1b["+decimal(n)+"d")); !slices.EqualFunc(got, want, alike) {
			t.Errorf("%d: %v", n, got)
		}
	}
}

// decimal is n in base 10.
func decimal(n int) string {
	if n < 10 {
		return string(rune('0' + n))
	}
	return decimal(n/10) + decimal(n%10)
}

// P7.1: each sign that ends a CSI.
func TestEndOfCsi(t *testing.T) {
	for r := rune(64); r <= 126; r++ {
		check(t, "of no number", with("\x1b[", r, "5m"), all(csi(r), seen("5m")))
		check(t, "of two", with("\x1b[12;3", r, ";4m"), all(csi(r, 12, 3), seen(";4m")))
		check(t, "of one that tells nothing", with("\x1b[?1", r, "5m"), seen("5m"))
		check(t, "of the next one", slices.Concat(with("\x1b[?1", r, ""), with("\x1b[2", r, "a")), all(csi(r, 2), seen("a")))
	}
}

// P7.1: each sign that breaks a CSI off, and what comes behind.
func TestBrokenCsi(t *testing.T) {
	breaks := []rune{-1, -27, math.MinInt32}
	for r := rune(0); r < 32; r++ {
		if r != 27 {
			breaks = append(breaks, r)
		}
	}
	for _, r := range breaks {
		for _, s := range []string{"", "1", "1;2", ";", "?1", "1 "} {
			check(t, "broken off", with("\x1b["+s, r, ""), nil)
			check(t, "its rest is seen", with("\x1b["+s, r, "3;4m"), seen("3;4m"))
			check(t, "the next one", with("\x1b["+s, r, "\x1b[5m\x1b[m\x1b]a\x07"), all(csi('m', 5), csi('m'), osc("a")))
		}
	}
	for _, s := range []string{"", "1", "1;2", ";", "?1", "1 "} {
		checkText(t, "by a CSI", "\x1b["+s+"\x1b[3A", csi('A', 3))
		checkText(t, "by an empty CSI", "\x1b["+s+"\x1b[A", csi('A'))
		checkText(t, "by an OSC", "\x1b["+s+"\x1b]5\x07", osc("5"))
		checkText(t, "by a sign behind an escape", "\x1b["+s+"\x1bm5", seen("5"))
		checkText(t, "by escapes", "\x1b["+s+"\x1b\x1b[7B", csi('B', 7))
		checkText(t, "by a control behind an escape", "\x1b["+s+"\x1b\nm", seen("m"))
	}
}

// P7.1: each sign that only keeps a CSI from telling anything, wherever it stands.
func TestMuteCsi(t *testing.T) {
	mutes := slices.Concat(wide, []rune{58, 127, 0xD800, 0xDFFF, 0x110000, math.MaxInt32, 0x130, 0x139, 0x13B, 0x141, 0x661, 0x100031})
	for r := rune(32); r < 64; r++ {
		if r != ';' && (r < '0' || r > '9') {
			mutes = append(mutes, r)
		}
	}
	for _, r := range mutes {
		for _, x := range [][2]string{{"", ""}, {"1", ""}, {"", "1"}, {"1;2", ";3"}, {";", ";"}} {
			check(t, "mute", with("\x1b["+x[0], r, x[1]+"m5"), seen("5"))
			check(t, "mute twice", slices.Concat(with("\x1b["+x[0], r, x[1]), []rune{r}, []rune("A")), nil)
			check(t, "then broken off", with("\x1b["+x[0], r, x[1]+"\x0d5m"), seen("5m"))
			check(t, "the next one", with("\x1b["+x[0], r, x[1]+"m\x1b[6m"), csi('m', 6))
			check(t, "one that breaks it off", with("\x1b["+x[0], r, x[1]+"\x1b[6m"), csi('m', 6))
			check(t, "an OSC behind it", with("\x1b["+x[0], r, x[1]+"m\x1b]6\x07"), osc("6"))
			check(t, "an OSC that breaks it off", with("\x1b["+x[0], r, x[1]+"\x1b]6\x07"), osc("6"))
		}
	}
}

// P7.1: an OSC of each kind of sign, ended both ways.
func TestOsc(t *testing.T) {
	for _, end := range []string{"\x07", "\x1b\\"} {
		checkText(t, "of nothing", "\x1b]"+end, osc(""))
		checkText(t, "of one byte a sign", "\x1b]0;title"+end, osc("0;title"))
		checkText(t, "of all signs", "\x1b]a\u00e9\u4e2d\U0001f600"+end+"x", all(osc("a\u00e9\u4e2d\U0001f600"), seen("x")))
		checkText(t, "of brackets", "\x1b][\\]m"+end, osc("[\\]m"))
		checkText(t, "two", "\x1b]a"+end+"\x1b]b"+end, all(osc("a"), osc("b")))
		checkText(t, "a CSI behind it", "\x1b]12"+end+"\x1b[m", all(osc("12"), csi('m')))
		checkText(t, "a CSI ahead of it", "\x1b[12m\x1b]"+end, all(csi('m', 12), osc("")))
		for r := rune(0); r < 0x800; r++ {
			if r != 7 && r != 27 {
				check(t, "of each sign", with("\x1b]", r, end), osc(string(r)))
				check(t, "of each sign between others", with("\x1b]a", r, "b"+end), osc("a"+string(r)+"b"))
			}
		}
		for _, r := range wide {
			check(t, "of a wide sign", with("\x1b]a", r, "b"+end), osc("a"+string(r)+"b"))
		}
		for _, r := range wrong {
			check(t, "of a wrong sign", with("\x1b]a", r, "b"+end+"5"), all(osc("a\ufffdb"), seen("5")))
		}
	}
}

// P7.1: an OSC that is broken off, and what comes behind.
func TestBrokenOsc(t *testing.T) {
	for _, s := range []string{"", "a", "0;title", "\u4e2d", strings.Repeat("x", 5000)} {
		checkText(t, "by a CSI", "\x1b]"+s+"\x1b[3A", csi('A', 3))
		checkText(t, "by an empty CSI", "\x1b]"+s+"\x1b[m5", all(csi('m'), seen("5")))
		checkText(t, "by an OSC", "\x1b]"+s+"\x1b]b\x07", osc("b"))
		checkText(t, "by an empty OSC", "\x1b]"+s+"\x1b]\x1b\\", osc(""))
		checkText(t, "by an escape, no end any more", "\x1b]"+s+"\x1b\x1b\\", nil)
		checkText(t, "by an escape, then a CSI", "\x1b]"+s+"\x1b\x1b[4D", csi('D', 4))
		checkText(t, "by escapes, then an OSC", "\x1b]"+s+"\x1b\x1b\x1b]c\x07", osc("c"))
		checkText(t, "by a sign", "\x1b]"+s+"\x1bc\\\x075", seen("\\5"))
		checkText(t, "by a bell behind an escape", "\x1b]"+s+"\x1b\x075", seen("5"))
		checkText(t, "by a control behind an escape", "\x1b]"+s+"\x1b\n\r", ctrl(13))
	}
	others := slices.Concat(wide, wrong)
	for r := rune(0); r < 128; r++ {
		if r != 27 && r != '[' && r != ']' && r != '\\' {
			others = append(others, r)
		}
	}
	for _, r := range others {
		check(t, "by each sign", with("\x1b]ab\x1b", r, "5"), seen("5"))
		check(t, "by each sign, then a CSI", with("\x1b]12\x1b", r, "\x1b[m"), csi('m'))
	}
}

// P7.1: texts of as many bytes as may be, and just of more.
func TestLongOsc(t *testing.T) {
	for _, end := range []string{"\x07", "\x1b\\"} {
		for _, n := range []int{3998, 3999, 4000, 4001, 4002, 8000, 8001, 100000} {
			for _, sign := range []rune{'x', '\\', 0, 0xE9, 0x20AC, 0x4E2D, 0x1F600, -1, 0xD800, 0x110000} {
				bytes := string(sign)
				many := n / len(bytes)
				signs, text := slices.Repeat([]rune{sign}, many), strings.Repeat(bytes, many)
				pad := strings.Repeat("a", n%len(bytes))
				checkLong(t, slices.Concat([]rune(pad), signs), pad+text, end)
				checkLong(t, slices.Concat(signs, []rune(pad)), text+pad, end)
			}
		}
	}
}

// checkLong holds what an OSC of these signs, which have these bytes, tells when it ends so, and what comes behind it.
func checkLong(t *testing.T, text []rune, bytes, end string) {
	t.Helper()
	var want []api.Event
	if len(bytes) <= 4000 {
		want = osc(bytes)
	}
	l := slices.Concat([]rune("\x1b]"), text, []rune(end))
	check(t, "a long one", l, want)
	behind := []rune("\x1b[1m\x1b]y" + end + "x")
	check(t, "others behind a long one", slices.Concat(l, behind), all(want, csi('m', 1), osc("y"), seen("x")))
}

// P7.1: a sign that has no room any more spoils the text, though there were room for those behind it.
func TestNoRoomForOneSign(t *testing.T) {
	for _, end := range []string{"\x07", "\x1b\\"} {
		for _, sign := range []rune{0xE9, 0x4E2D, 0x1F600, -1} {
			size := len(string(sign))
			for room := range 5 {
				first := strings.Repeat("x", 4000-room)
				var want, more []api.Event
				if size <= room {
					want = osc(first + string(sign))
				}
				if size < room {
					more = osc(first + string(sign) + "y")
				}
				check(t, "ended behind it", with("\x1b]"+first, sign, end), want)
				check(t, "one more behind it", with("\x1b]"+first, sign, "y"+end), more)
				check(t, "the next one", with("\x1b]"+first, sign, "yyyy"+end+"\x1b]b"+end), osc("b"))
			}
		}
	}
}

// P7.1: Quiet behind each sign, written out.
func TestQuiet(t *testing.T) {
	for _, x := range []struct{ signs, quiet string }{
		{"a\n\x00\x7f\u4e2d", "qqqqq"},
		{"\x1bcx", ".qq"},
		{"\x1b\x1b\x1b\\x", "...qq"},
		{"\x1b\u4e2dx", ".qq"},
		{"\x1b[mx", "..qq"},
		{"\x1b[1;2mx", ".....qq"},
		{"\x1b[?1 \x7f\u4e2dmx", ".......qq"},
		{"\x1b[1\rx", "...qq"},
		{"\x1b[1\x1b[2\x1b]3\x1b4x", "..........qq"},
		{"\x1b]\x07x", "..qq"},
		{"\x1b]ab\x07x", "....qq"},
		{"\x1b]ab\x1b\\x", ".....qq"},
		{"\x1b]a\n\x1b\x1b\\x", "......qq"},
		{"\x1b]a\x1b[mx", ".....qq"},
		{"\x1b]a\x1b\x07x", "....qq"},
		{"\x1b]" + strings.Repeat("x", 5000) + "\x07x", strings.Repeat(".", 5002) + "qq"},
	} {
		var p esc.Parser
		var got strings.Builder
		for _, r := range x.signs {
			p.Put(r)
			mark := "."
			for range 2 {
				if p.Quiet() {
					mark = "q"
				}
			}
			got.WriteString(mark)
		}
		if got.String() != x.quiet {
			t.Errorf("%.40q: quiet %.40s, not %.40s", x.signs, got.String(), x.quiet)
		}
	}
}

// P7.1: all short texts of the signs that tell the most, against the model.
func TestAllShortTexts(t *testing.T) {
	broad := []rune{27, '[', ']', '\\', 7, 10, 0, '0', '9', ';', 'm', '?', 127, 0x4E2D, -1, 0x110000}
	narrow := []rune{27, '[', ']', '\\', 7, 10, '5', ';'}
	hold := func(l []rune) {
		var p esc.Parser
		feed(t, "short", &p, l)
	}
	strew("", broad, 4, hold)
	strew("", narrow, 6, hold)
	for _, head := range []string{"\x1b", "\x1b[", "\x1b]", "\x1b[9", "\x1b]a\x1b"} {
		strew(head, broad, 4, hold)
	}
}

// P7.1: long rows of signs that come out of a fixed row of numbers, into one parser.
func TestLongTexts(t *testing.T) {
	source := rand.New(rand.NewSource(7))
	parts := []string{"\x1b", "\x1b[", "\x1b]", "\x1b\\", "\x07", "\n", ";", ";;;", "0", "9", "99", "m", "H", "?", " ", "\x7f", "a", "\u00e9", "\u4e2d", "\\", "\x00"}
	for range 200 {
		var l []rune
		for range 400 {
			if source.Intn(20) == 0 {
				l = append(l, wrong[source.Intn(len(wrong))])
			}
			if source.Intn(60) == 0 {
				l = slices.Concat(l, []rune("\x1b]"), slices.Repeat([]rune{0x4E2D}, 1331+source.Intn(5)))
			}
			l = append(l, []rune(parts[source.Intn(len(parts))])...)
		}
		var p esc.Parser
		feed(t, "long", &p, l)
	}
}

// P7.1, P0.1, P0.5: a nil parser tells nothing and is at rest, whatever it is told.
func TestNil(t *testing.T) {
	var none *esc.Parser
	for range 2 {
		for _, r := range slices.Concat([]rune("a\x1b[1m\x1b]a\x07\x1b\\\n\u4e2d"), wide, wrong) {
			if got := none.Put(r); got != nil || !none.Quiet() {
				t.Errorf("nil: of %x %v, quiet %v", r, got, none.Quiet())
			}
		}
	}
}

// P0.5: two parsers that are told signs by turns know nothing of one another.
func TestTwoParsers(t *testing.T) {
	texts := []string{"\x1b[1;2m", "\x1b]ab\x07", "\x1b]cd\x1b\\", "\x1b[?5h", "\x1b\x1b[7A", "plain", "\x1b[3\rx", "\x1b]e\x1b[4B", "\x1b]" + strings.Repeat("x", 4001) + "\x07", "\x1b]" + strings.Repeat("y", 4000) + "\x07"}
	for _, a := range texts {
		for _, b := range texts {
			turns := [2][]rune{[]rune(a + b), []rune(b + a)}
			var p [2]esc.Parser
			models := [2][]moment{model(turns[0]), model(turns[1])}
			for i := range turns[0] {
				for k := range p {
					got, want := p[k].Put(turns[k][i]), models[k][i]
					told := len(got) == 1 && alike(got[0], want.event) || len(got) == 0 && want.event.Kind == 0
					if !told || p[k].Quiet() != want.quiet {
						t.Fatalf("%.40q and %.40q, sign %d of %d: %v", a, b, i, k, got)
					}
				}
			}
		}
	}
}

// spoil writes over the events and their numbers, the spare room of both too.
func spoil(l []api.Event) {
	l = l[:cap(l)]
	for i := range l {
		args := l[i].Args[:cap(l[i].Args)]
		for k := range args {
			args[k] = -1
		}
		l[i] = api.Event{Kind: -1, R: -1, Args: []int{-1}, Text: "spoiled"}
	}
}

// last puts s into p and tells what its last sign tells.
func last(p *esc.Parser, s string) []api.Event {
	var out []api.Event
	for _, r := range s {
		out = p.Put(r)
	}
	return out
}

// P0.3: what is told is the caller's own: writing into it turns nothing that is told later, nor what was told ahead.
func TestMemory(t *testing.T) {
	texts := []string{"a", "\t", "\x1b[m", "\x1b[1m", "\x1b[1;2;3;4;5;6;7;8m", "\x1b[9;8;7;6;5;4;3;2;1H", "\x1b]ab\x07", "\x1b]ab\x1b\\"}
	for _, first := range texts {
		for _, second := range texts {
			var p, q esc.Parser
			want := feed(t, "a fresh one", new(esc.Parser), []rune(second))
			before := last(&p, second)
			other := last(&q, first)
			spoil(last(&p, first))
			behind := last(&p, second)
			spoil(other)
			if !slices.EqualFunc(before, want, alike) || !slices.EqualFunc(behind, want, alike) {
				t.Errorf("%q spoiled: %q ahead %v, behind %v", first, second, before, behind)
			}
			spoil(behind)
			if !slices.EqualFunc(before, want, alike) {
				t.Errorf("%q spoiled: the same ahead %v", second, before)
			}
			check(t, "a new parser", []rune(second), want)
		}
	}
}

// P0.3: numbers that were told stay as they are while the parser reads on.
func TestNumbersStay(t *testing.T) {
	var p esc.Parser
	first := last(&p, "\x1b[1;2;3m")
	for _, s := range []string{"\x1b[4;5;6m", "\x1b[;;;;;;;;;m", "\x1b[7", ";8;9;10;11", "\x1b]abc\x07", "\x1b[m"} {
		last(&p, s)
		if !slices.EqualFunc(first, csi('m', 1, 2, 3), alike) {
			t.Fatalf("behind %q: %v", s, first)
		}
	}
}
