package regex_test

import (
	"fmt"
	"strings"
	"testing"

	"rotulus/api"
	"rotulus/regex"
)

// Nodes in short.
var (
	anySign = api.Node{Kind: api.NSet, Not: true}
	begin   = api.Node{Kind: api.NBegin}
	end     = api.Node{Kind: api.NEnd}
	a       = one('a')
	b       = one('b')
	c       = one('c')
)

func one(r rune) api.Node           { return set(r, r) }
func cat(kids ...api.Node) api.Node { return api.Node{Kind: api.NCat, Kids: kids} }
func alt(kids ...api.Node) api.Node { return api.Node{Kind: api.NAlt, Kids: kids} }

// set is the set of ranges, of which each has two signs.
func set(ends ...rune) api.Node {
	n := api.Node{Kind: api.NSet}
	for i := 0; i < len(ends); i += 2 {
		n.Set = append(n.Set, api.Range{Lo: ends[i], Hi: ends[i+1]})
	}
	return n
}

// signs is the set of these, each alone.
func signs(s string) api.Node {
	n := api.Node{Kind: api.NSet}
	for _, r := range s {
		n.Set = append(n.Set, api.Range{Lo: r, Hi: r})
	}
	return n
}

// not is the set of the others.
func not(n api.Node) api.Node {
	n.Not = true
	return n
}

// rep is n from least to most times.
func rep(n api.Node, least, most int) api.Node {
	return api.Node{Kind: api.NRep, Kids: []api.Node{n}, Min: least, Max: most}
}

// told tells a node in short.
func told(n api.Node) string {
	s := fmt.Sprintf("%+v", n)
	return s[:min(len(s), 600)]
}

// parse holds Parse of s against what is wanted, and what Put tells of that.
func parse(t *testing.T, s string, want api.Node) {
	t.Helper()
	got, err := regex.Parse(s)
	if err != api.OK || !same(got, want) {
		t.Fatalf("P14.1: Parse(%q) = %s, %v, not %s", s, told(got), err, told(want))
	}
	again := put(t, want)
	if len(again) > len(s) {
		t.Fatalf("P14.1: Put tells %q as %q, which is longer", s, again)
	}
}

// refuse holds that Parse of s tells that it is no pattern.
func refuse(t *testing.T, s string) {
	t.Helper()
	if n, err := regex.Parse(s); err != api.ErrRegex || !same(n, api.Node{}) {
		t.Fatalf("P14.1: Parse(%.200q) = %s, %v, not zero and ErrRegex", s, told(n), err)
	}
}

// check holds Parse of s against the model.
func check(t *testing.T, s string) {
	t.Helper()
	want, err := modelParse(s)
	if err != api.OK {
		refuse(t, s)
		return
	}
	parse(t, s, want)
}

// put holds that n may be, and that Put tells a text that tells n, to Parse too if it is not too long.
func put(t *testing.T, n api.Node) string {
	t.Helper()
	if !regex.May(n) {
		t.Fatalf("P14.1: May(%s) is false", told(n))
	}
	s := regex.Put(n)
	if got, ok := modelRead(s); !ok || !same(got, n) {
		t.Fatalf("P14.1: Put(%s) = %.200q, which tells %s, %v", told(n), s, told(got), ok)
	}
	if len(s) > 60 {
		refuse(t, s)
		return s
	}
	got, err := regex.Parse(s)
	if err != api.OK || !same(got, n) {
		t.Fatalf("P14.1: Put(%s) = %q, of which Parse tells %s, %v", told(n), s, told(got), err)
	}
	if !regex.Eq(got, n) || !regex.Eq(n, got) {
		t.Fatalf("P14.1: Eq tells %s and what Parse tells of %q apart", told(n), s)
	}
	return s
}

// mayNot holds that n may not be, and has no text.
func mayNot(t *testing.T, n api.Node) {
	t.Helper()
	if regex.May(n) {
		t.Fatalf("P14.1: May(%s)", told(n))
	}
	if s := regex.Put(n); s != "" {
		t.Fatalf("P14.1: Put(%s) = %.200q, which may not be", told(n), s)
	}
}

// P14.1: each kind of atom, alone and with others at both sides.
func TestAtoms(t *testing.T) {
	for s, want := range map[string]api.Node{
		"a": a, ".": anySign, "^": begin, "$": end, `\a`: a, `\.`: one('.'), "(a)": a, "[a]": a, "[^a]": not(a), "[ab]": signs("ab"),
		"-": one('-'), ",": one(','), "/": one('/'), "1": one('1'), " ": one(' '), "\n": one('\n'), "\x00": one(0), "\x7f": one(0x7F), "<>=!:'\"": cat(one('<'), one('>'), one('='), one('!'), one(':'), one('\''), one('"')),
		`\n`: one('n'), `\d\w`: cat(one('d'), one('w')), `\\`: one('\\'), "\\\x00": one(0), "\\\n": one('\n'), `\中`: one('中'),
		"ab": cat(a, b), "abc": cat(a, b, c), "aaa": cat(a, a, a), "a.": cat(a, anySign), "..": cat(anySign, anySign),
		"^a$": cat(begin, a, end), "a^b": cat(a, begin, b), "$^": cat(end, begin), "^^$$": cat(begin, begin, end, end),
		"((a))": a, "(((.)))": anySign, "(^)": begin, "($)": end, "([ab])": signs("ab"), `(\))`: one(')'),
		"(ab)c": cat(cat(a, b), c), "a(bc)": cat(a, cat(b, c)), "(ab)": cat(a, b), "a(b)c": cat(a, b, c), "(a)(b)": cat(a, b), "((ab)c)": cat(cat(a, b), c), "(ab)(ab)": cat(cat(a, b), cat(a, b)),
		`a\|b`: cat(a, one('|'), b), `\(a\)`: cat(one('('), a, one(')')), `\[a\]`: cat(one('['), a, one(']')), `a\*`: cat(a, one('*')), `a\{2\}`: cat(a, one('{'), one('2'), one('}')),
	} {
		parse(t, s, want)
	}
}

// P14.1: every sign, alone, behind a \, and in sets; twelve are no atoms.
func TestEverySign(t *testing.T) {
	const special = `|*+?{}()[].^$\`
	for r := rune(0); r <= 0x10FFFF; r++ {
		s := string(r)
		if s == "\ufffd" { // which stands for those that may not be too
			continue
		}
		n, err := regex.Parse(s)
		if !strings.Contains(special, s) && (err != api.OK || !same(n, one(r))) {
			t.Fatalf("P14.1: Parse(%q) = %s, %v", s, told(n), err)
		}
		if r > 0x2FF && r%97 != 0 {
			continue
		}
		check(t, s)
		parse(t, `\`+s, one(r))
		parse(t, `[\`+s+`]`, one(r))
		parse(t, `[^\`+s+`]`, not(one(r)))
		parse(t, `[a\`+s+`]`, set('a', 'a', r, r))
		for _, around := range []string{"a%sb", "%s%s", "[%s]", "[^%s]", "[%sa]", "[a%s]", "[a%sb]", "[%s-%s]", "[%s-a]", "[a-%s]", "(%s)", "%s*", "%s|%s", `[\%s-\%s]`, `[a-\%s]`, `[\%s-a]`} {
			check(t, strings.ReplaceAll(around, "%s", s))
		}
	}
	for _, r := range special {
		if s := string(r); !strings.Contains(".^$", s) {
			refuse(t, s)
			refuse(t, s+s+s)
		}
	}
}

// P14.1: each repeat of each kind of atom.
func TestRepeats(t *testing.T) {
	repeats := map[string][2]int{"*": {0, -1}, "+": {1, -1}, "?": {0, 1}}
	for m := range 10 {
		repeats[fmt.Sprintf("{%d}", m)] = [2]int{m, m}
		repeats[fmt.Sprintf("{%d,}", m)] = [2]int{m, -1}
		for n := m; n < 10; n++ {
			repeats[fmt.Sprintf("{%d,%d}", m, n)] = [2]int{m, n}
		}
		for n := range m {
			refuse(t, fmt.Sprintf("a{%d,%d}", m, n))
			refuse(t, fmt.Sprintf("(a{%d,%d})", m, n))
		}
	}
	for s, times := range repeats {
		least, most := times[0], times[1]
		for atom, kid := range map[string]api.Node{"a": a, ".": anySign, "[a-c]": set('a', 'c'), "[^a]": not(a), `\*`: one('*'), "中": one('中'), "(a)": a, "(ab)": cat(a, b), "(a|b)": alt(a, b), "(^)": begin, "($)": end, "(a*)": rep(a, 0, -1), "(a{2,3})": rep(a, 2, 3), "-": one('-')} {
			parse(t, atom+s, rep(kid, least, most))
			parse(t, "b"+atom+s+"c", cat(b, rep(kid, least, most), c))
			parse(t, "b|"+atom+s, alt(b, rep(kid, least, most)))
			parse(t, "("+atom+s+")", rep(kid, least, most))
		}
		parse(t, "ab"+s, cat(a, rep(b, least, most)))
		parse(t, "a"+s+"b"+s, cat(rep(a, least, most), rep(b, least, most)))
		parse(t, "^a"+s+"$", cat(begin, rep(a, least, most), end))
		for other := range repeats {
			refuse(t, "a"+s+other)
			refuse(t, "(ab"+s+other+")")
		}
		for _, front := range []string{"", "^", "$", "a^", "a$", "(", "(a|", "|", "a|", "()", "(^", "a(", `^a$`} {
			refuse(t, front+s)
			refuse(t, front+s+"a")
			refuse(t, front+s+")")
		}
	}
}

// P14.1: what stands in braces but is no repeat.
func TestWrongBraces(t *testing.T) {
	for _, s := range []string{
		"{", "}", "{}", "{,}", "{,1}", "{1", "{1,", "{1,2", "{,", "{1,2,}", "{1,2,3}", "{1,,2}", "{,,}", "{1}}", "{{1}}", "{{1}",
		"{10}", "{01}", "{00}", "{10,}", "{1,10}", "{10,11}", "{01,2}", "{1,02}", "{99}", "{4294967297}", "{18446744073709551617}",
		"{-1}", "{+1}", "{1,-1}", "{a}", "{1a}", "{ 1}", "{1 }", "{1, 2}", "{ }", "{1.5}", "{1;2}", "{:}", "{/}", "{1,:}", "{1,/}", "{\uff11}", "{\u0661}", `{\1}`, "{(1)}", "{*}", "{1*}", "{1|2}", "{[1]}",
		"{1]", "{1)", "[1}", "(1}", "\x00{", "{\x00}", "{1\x00}",
	} {
		refuse(t, "a"+s)
		refuse(t, s)
		refuse(t, "(a"+s+")")
		refuse(t, "a"+s+"|b")
		check(t, "["+s+"]")
	}
	parse(t, "a{1}b", cat(rep(a, 1, 1), b))
	parse(t, "[{1,2}]", signs("{1,2}"))
	parse(t, `a\{1\}`, cat(a, one('{'), one('1'), one('}')))
}

// P14.1: alternations, and rows that are empty.
func TestAlternations(t *testing.T) {
	for s, want := range map[string]api.Node{
		"a|b": alt(a, b), "a|b|c": alt(a, b, c), "a|a": alt(a, a), "ab|c": alt(cat(a, b), c), "a|bc": alt(a, cat(b, c)), "ab|bc|ca": alt(cat(a, b), cat(b, c), cat(c, a)),
		"(a|b)": alt(a, b), "(a|b)|c": alt(alt(a, b), c), "a|(b|c)": alt(a, alt(b, c)), "(a|b)c": cat(alt(a, b), c), "a(b|c)": cat(a, alt(b, c)), "(a)|(b)": alt(a, b), "(a|b)|(b|c)": alt(alt(a, b), alt(b, c)),
		"^|$": alt(begin, end), ".|.": alt(anySign, anySign), "^a|b$": alt(cat(begin, a), cat(b, end)), "(a|b)*": rep(alt(a, b), 0, -1), "a|b*": alt(a, rep(b, 0, -1)), "a*|b": alt(rep(a, 0, -1), b),
		"[|]|a": alt(one('|'), a), `\||a`: alt(one('|'), a), "a(b|c)*|c": alt(cat(a, rep(alt(b, c), 0, -1)), c), "((a|b)|c)": alt(alt(a, b), c), "((ab|c))": alt(cat(a, b), c),
	} {
		parse(t, s, want)
	}
	for _, s := range []string{
		"", "|", "||", "a|", "|a", "a||b", "a|b|", "|a|b", "a|b||c", "()", "(|)", "(a|)", "(|a)", "(a||b)", "a()", "()a", "a()b", "a|()", "()|a", "(())", "((a)())", "(a)|", "|(a)", "()*", "(){2}", "(|)*", "^|", "|$", "(^|)", "a*|", "|a*",
	} {
		refuse(t, s)
	}
}

// P14.1: parentheses, brackets, braces and a \ that are alone.
func TestLoneSigns(t *testing.T) {
	for _, s := range []string{
		")", "(", "(a", "a)", "(a))", "((a)", ")a(", "a)b", "a(b", "(a|b", "a|b)", "(a)b)", "((a|b)", ")(", "(a]", "[a)", "a|)", "(|a",
		"]", "a]", "]a", "a]b", "(])", "[a]]", "a|]", "]*",
		"}", "a}", "}a", "a{1}}", "(})", "}*", "a|}", "{", "a{", "{a", "({)", "a|{", "{*",
		`\`, `a\`, `a|\`, `a*\`, `\\\`, `(a\)`, `(\)`, `[a]\`, `.\`, `^\`, `\(\`,
	} {
		refuse(t, s)
	}
	parse(t, `\\\\`, cat(one('\\'), one('\\')))
	parse(t, `(a\))`, cat(a, one(')')))
}

// P14.1: sets: their Ranges as written, in their order.
func TestSets(t *testing.T) {
	for s, want := range map[string]api.Node{
		"[a]": a, "[ab]": signs("ab"), "[ba]": signs("ba"), "[aa]": signs("aa"), "[^a]": not(a), "[^ab]": not(signs("ab")),
		"[a-c]": set('a', 'c'), "[a-a]": a, "[^a-c]": not(set('a', 'c')), "[^a-a]": not(a), "[a-cb-d]": set('a', 'c', 'b', 'd'), "[xa-c]": set('x', 'x', 'a', 'c'), "[a-cx]": set('a', 'c', 'x', 'x'), "[b-da-c]": set('b', 'd', 'a', 'c'), "[0-9a-fA-F]": set('0', '9', 'a', 'f', 'A', 'F'),

		"[-]": one('-'), "[--]": signs("--"), "[---]": one('-'), "[----]": signs("--"), "[-----]": signs("---"), "[------]": signs("--"),
		"[a-]": signs("a-"), "[-a]": signs("-a"), "[-a-]": signs("-a-"), "[--a]": set('-', 'a'), "[+--]": set('+', '-'), "[+---]": set('+', '-', '-', '-'), "[+--a]": set('+', '-', 'a', 'a'), "[+---a]": set('+', '-', '-', '-', 'a', 'a'), "[+----a]": set('+', '-', '-', 'a'),
		"[a-c-]": set('a', 'c', '-', '-'), "[a-c-e]": set('a', 'c', '-', '-', 'e', 'e'), "[a-c--e]": set('a', 'c', '-', 'e'), "[a-c-e-g]": set('a', 'c', '-', '-', 'e', 'g'), "[-a-c]": set('-', '-', 'a', 'c'), "[--a-c]": set('-', 'a', '-', '-', 'c', 'c'),
		"[^-]": not(one('-')), "[^--]": not(signs("--")), "[^-a]": not(signs("-a")), "[^a-]": not(signs("a-")), "[^--a]": not(set('-', 'a')), "[^---]": not(one('-')),
		`[\-]`: one('-'), `[a\-c]`: signs("a-c"), `[\--a]`: set('-', 'a'), `[+-\-]`: set('+', '-'), `[a\-]`: signs("a-"), `[\-a]`: signs("-a"), `[\-\-]`: signs("--"), `[-\-a]`: signs("--a"), `[-\--]`: signs("---"), `[a\--c]`: set('a', 'a', '-', 'c'), `[a-\c]`: set('a', 'c'), `[\a-c]`: set('a', 'c'), `[\a-\c]`: set('a', 'c'), `[\a\-\c]`: signs("a-c"),

		"[^^]": not(one('^')), "[^^^]": not(signs("^^")), "[a^]": signs("a^"), "[^a^]": not(signs("a^")), `[\^]`: one('^'), `[\^a]`: signs("^a"), `[^\^]`: not(one('^')), "[A-^]": set('A', '^'), "[-^]": signs("-^"), "[^^-a]": not(set('^', 'a')), `[\^-a]`: set('^', 'a'), "[^-^]": not(signs("-^")), `[\^^]`: signs("^^"), `[\^-]`: signs("^-"),

		"[[]": one('['), "[[a]": signs("[a"), "[a[]": signs("a["), "[[[]": signs("[["), "[A-[]": set('A', '['), "[[-a]": set('[', 'a'), "[^[]": not(one('[')), `[\[]`: one('['), "[[-]": signs("[-"), "[[:alpha:]": signs("[:alpha:"),
		`[\]]`: one(']'), `[a\]]`: signs("a]"), `[\]a]`: signs("]a"), `[^\]]`: not(one(']')), `[A-\]]`: set('A', ']'), `[\]-a]`: set(']', 'a'), `[\]-]`: signs("]-"), `[[\]]`: signs("[]"), `[\]\]]`: signs("]]"), `[\]-\]]`: one(']'),
		`[\\]`: one('\\'), `[a\\]`: signs(`a\`), `[\\a]`: signs(`\a`), `[^\\]`: not(one('\\')), `[A-\\]`: set('A', '\\'), `[\\-a]`: set('\\', 'a'), `[\\-]`: signs(`\-`), `[\\\]]`: signs(`\]`), `[\\-\]]`: set('\\', ']'), `[\\\\]`: signs(`\\`), `[\\-\\]`: one('\\'),
		`[\n\d]`: signs("nd"), "[\n]": one('\n'), "[\x00-\x7f]": set(0, 0x7F), "[ -~]": set(' ', '~'), `[\a]`: a,
		"[*+?(){}|.$,/]": signs("*+?(){}|.$,/"), "[.]": one('.'), "[^.]": not(one('.')), "[$^]": signs("$^"), "[()]": signs("()"), "[|]": one('|'), "[*-+]": set('*', '+'), "[{-}]": set('{', '}'), "[{1,2}]": signs("{1,2}"),
		"[a][b]": cat(a, b), "[a]-[b]": cat(a, one('-'), b), "a[b]c": cat(a, b, c), "[ab]*": rep(signs("ab"), 0, -1), "[a]|[^b]": alt(a, not(b)), "([ab])": signs("ab"),
	} {
		parse(t, s, want)
	}
	for _, s := range []string{
		"[", "[]", "[^", "[^]", "[]]", "[^]]", "[]a]", "[^]a]", "[a", "[^a", "[a-", "[a-c", "[a-cx", "[ab]c]", "a[", "a[]", "a[b", "[a][", "[][a]", "[]|a]", "[[]]", "[^[]]", "[-", "[--", "[---", "[^-", "[(a])", "([)]", "[a)", "(a[)", "[a|b", "[a]b]",
		"[c-a]", "[^c-a]", "[b-a]", "[xc-a]", "[a-c-ec-a]", "[c-ax]", "[a--]", "[a---]", "[^a--]", "[a--c]", "[z-a-z]", "[a-^]", "[a-[]", `[a-\]]`, `[a-\\]`, `[a-\-]`, `[\c-a]`, `[\c-\a]`, "[中-a]", "[\U0010ffff-中]", "[-a--]", "[.-+]", "[a-\x00]",
		`[\`, `[\]`, `[a\`, `[a\]`, `[^\]`, `[a-\`, `[a-\]`, `[\\\]`, `[a]\`, `[\-`, `[\--`,
	} {
		refuse(t, s)
	}
}

// P14.1: signs of one to four bytes, in all places.
func TestSignsOfManyBytes(t *testing.T) {
	all := []rune{0, 1, 'a', 0x7F, 0x80, 0xE9, 0x7FF, 0x800, 0x4E2D, 0xD7FF, 0xE000, 0xFFFC, 0xFFFE, 0xFFFF, 0x10000, 0x1F600, 0x10FFFE, 0x10FFFF}
	for i, x := range all {
		s := string(x)
		parse(t, s, one(x))
		parse(t, `\`+s+"+", rep(one(x), 1, -1))
		parse(t, "("+s+s+")|"+s, alt(cat(one(x), one(x)), one(x)))
		for _, y := range all[i:] {
			parse(t, "["+s+"-"+string(y)+"]", set(x, y))
			parse(t, "[^"+s+"-"+string(y)+s+"]", not(set(x, y, x, x)))
			if x < y {
				refuse(t, "["+string(y)+"-"+s+"]")
			}
		}
	}
}

// P14.1: bytes that are not well formed, and the sign FFFD itself.
func TestWrongBytes(t *testing.T) {
	wrong := []string{
		"\xff", "\xfe", "\xc0", "\xc1", "\xf5", "\xf8\x88\x80\x80\x80", // no sequence begins so
		"\xc0\x80", "\xc1\xbf", "\xe0\x80\x80", "\xe0\x9f\xbf", "\xf0\x80\x80\x80", "\xf0\x8f\xbf\xbf", // longer than need be
		"\xed\xa0\x80", "\xed\xaf\xbf", "\xed\xb0\x80", "\xed\xbf\xbf", "\xed\xa0\x80\xed\xb0\x80", // D800 to DFFF
		"\xf4\x90\x80\x80", "\xf7\xbf\xbf\xbf", // above 10FFFF
		"\xc3", "\xe4\xb8", "\xe4", "\xf0\x9f\x98", "\xf0\x9f", "\xf0", "\xc3(", "\xe4\xb8a", // broken off
		"\xef\xbf\xbd", "\ufffd\ufffd",
	}
	for i := 0x80; i < 0xC0; i++ {
		wrong = append(wrong, string([]byte{byte(i)})) // nothing that it goes on with
	}
	for _, s := range wrong {
		for _, around := range []string{"%s", "a%s", "%sa", "a%sb", `\%s`, "[%s]", "[^%s]", "[a%s]", `[\%s]`, "[%s-%s]", "[a-%s]", "(%s)", "a|%s", "%s*", "a{%s}", "中%s", "%s中"} {
			refuse(t, strings.ReplaceAll(around, "%s", s))
		}
	}
	parse(t, "\xef\xbf\xbc", one(0xFFFC))
	parse(t, "[\xef\xbf\xbc-\xef\xbf\xbe]", set(0xFFFC, 0xFFFE))
}

// P14.1: at most 60 bytes, however many signs they are.
func TestLength(t *testing.T) {
	for _, s := range []string{"a", "é", "中", "\U0001f600", "ab", "a*", "a|", `\*`, "[a]", "[a-c]", "(a)", ".", "^", "a{2}", "(a|b)"} {
		for n := range 70 {
			check(t, strings.Repeat(s, n))
			check(t, strings.Repeat(s, n)+"a")
			check(t, "a"+strings.Repeat(s, n))
		}
	}
	all := func(r rune, n int) api.Node { return cat(nodes(one(r), n)...) }
	parse(t, strings.Repeat("a", 60), all('a', 60))
	parse(t, strings.Repeat("é", 30), all('é', 30))
	parse(t, strings.Repeat("中", 20), all('中', 20))
	parse(t, strings.Repeat("\U0001f600", 15), all(0x1F600, 15))
	parse(t, "["+strings.Repeat("a", 58)+"]", signs(strings.Repeat("a", 58)))
	for _, s := range []string{strings.Repeat("a", 61), strings.Repeat("é", 30) + "a", strings.Repeat("中", 20) + "a", strings.Repeat("\U0001f600", 15) + "a", strings.Repeat("é", 31), "[" + strings.Repeat("a", 59) + "]", strings.Repeat("(", 30) + "a" + strings.Repeat(")", 30), strings.Repeat("a", 1000), strings.Repeat("(", 1<<22), strings.Repeat("a|", 1<<22) + "a", strings.Repeat("\xff", 1<<22)} {
		refuse(t, s)
	}
}

// P14.1: parentheses as deep as sixty bytes hold.
func TestDeepParentheses(t *testing.T) {
	for n := range 31 {
		open, closed := strings.Repeat("(", n), strings.Repeat(")", n)
		if n < 30 {
			parse(t, open+"a"+closed, a)
			parse(t, open+"ab"+closed, cat(a, b))
		}
		for _, s := range []string{open + closed, open + "a" + closed, open + "a", open + "a" + closed + ")", "(" + open + "a" + closed, open + "|" + closed, open + "a|" + closed, closed + "a" + open, open + "*" + closed} {
			check(t, s)
		}
	}
	want := rep(a, 0, -1)
	for range 19 {
		want = rep(want, 0, -1)
	}
	parse(t, strings.Repeat("(", 19)+"a*"+strings.Repeat(")*", 19), want)
	for _, x := range [][3]string{{"(a|", "b", ")"}, {"a(", "b", ")"}, {"(", "a", ")c"}, {"a|b(", "c", ")*"}, {"b(", "a", ")+"}, {"(", "^", ")?"}} {
		for n := range 30 {
			check(t, strings.Repeat(x[0], n)+x[1]+strings.Repeat(x[2], n))
		}
	}
}
