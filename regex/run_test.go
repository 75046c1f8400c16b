package regex_test

import (
	"math/rand"
	"strings"
	"testing"

	"rotulus/api"
	"rotulus/regex"
)

// strew calls f with all texts of n signs out of these.
func strew(signs string, n int, f func(string)) {
	text := make([]byte, n)
	var fill func(int)
	fill = func(i int) {
		if i == n {
			f(string(text))
			return
		}
		for _, b := range []byte(signs) {
			text[i] = b
			fill(i + 1)
		}
	}
	fill(0)
}

// P14.1: all short texts out of a few signs, in several surroundings.
func TestAllShortTexts(t *testing.T) {
	every := make([]byte, 0x81)
	for i := range every {
		every[i] = byte(i)
	}
	for _, x := range []struct {
		front, signs, back string
		most               int
	}{
		{"", string(every), "", 2},
		{"", `a|*+?{}()[].^$\-,1`, "", 4},
		{"", "a|*()", "", 8},
		{"", "a|*()^", "", 7},
		{"(", "a|*()$", ")", 6},
		{"", `a|()[]\`, "", 6},
		{"", `[]^-a\`, "", 7},
		{"[", `[]^-ab\`, "]", 6},
		{"[", "-a^", "]", 9},
		{"[^", `-a^\`, "]", 7},
		{"[", "+-ab", "]", 7},
		{"a{", "0129,}{", "}", 6},
		{"a{", "01,", "}*", 6},
		{"", "a{1,}", "", 8},
		{"", "\xc3\xa9\xef\xbf\xbd\xbca", "", 6},
		{"[", "\xe4\xb8\xad-]", "]", 7},
	} {
		for n := range x.most + 1 {
			t.Run("", func(t *testing.T) {
				t.Parallel()
				strew(x.signs, n, func(s string) { check(t, x.front+s+x.back) })
			})
		}
	}
}

// drawnSign is a sign, most often one that means something somewhere.
func drawnSign(from *rand.Rand) rune {
	switch from.Intn(6) {
	case 0:
		return rune(from.Intn(128))
	case 1:
		return []rune{0, 0x7F, 0x80, 0x7FF, 0x800, 0x4E2D, 0xD7FF, 0xE000, 0xFFFC, 0xFFFE, 0xFFFF, 0x10000, 0x1F600, 0x10FFFF}[from.Intn(14)]
	case 2:
		return rune("abc019"[from.Intn(6)])
	}
	const meaning = `-^]\[|*+?{}().$,`
	return rune(meaning[from.Intn(len(meaning))])
}

// drawnSet is a set.
func drawnSet(from *rand.Rand) api.Node {
	n := api.Node{Kind: api.NSet, Not: from.Intn(4) == 0}
	many := 1
	if from.Intn(2) == 0 {
		many = 1 + from.Intn(6)
	}
	if n.Not && from.Intn(2) == 0 {
		many = 0
	}
	for range many {
		x, y := drawnSign(from), drawnSign(from)
		if from.Intn(2) == 0 {
			y = x
		}
		n.Set = append(n.Set, api.Range{Lo: min(x, y), Hi: max(x, y)})
	}
	return n
}

// drawn is a pattern, so deep in another one.
func drawn(from *rand.Rand, deep int) api.Node {
	kind := from.Intn(8)
	switch {
	case deep > 5 || kind < 3:
		return drawnSet(from)
	case kind == 3:
		return []api.Node{begin, end}[from.Intn(2)]
	case kind == 4 || kind == 5:
		least := from.Intn(10)
		if from.Intn(2) == 0 {
			least = from.Intn(2)
		}
		most := []int{-1, -1, least, 9, least + from.Intn(10-least)}[from.Intn(5)]
		return rep(drawn(from, deep+1), least, most)
	}
	n := api.Node{Kind: []int{api.NCat, api.NAlt}[kind-6]}
	for range 2 + from.Intn(3) {
		n.Kids = append(n.Kids, drawn(from, deep+1))
	}
	return n
}

// P14.1: drawn patterns, short ones and such whose texts are too long for Parse.
func TestDrawnPatterns(t *testing.T) {
	from := rand.New(rand.NewSource(1))
	short, long := 0, 0
	for range 20000 {
		n := drawn(from, 0)
		if !modelMay(n) {
			t.Fatalf("the model: %s may not be", told(n))
		}
		if len(put(t, n)) > 60 {
			long++
		} else {
			short++
		}
	}
	if short < 2000 || long < 2000 {
		t.Errorf("%d were short, %d long", short, long)
	}
}

// turned is s with a sign turned, left out, doubled or put in.
func turned(from *rand.Rand, s string) string {
	at := from.Intn(len(s))
	other := string(drawnSign(from))
	switch from.Intn(5) {
	case 0:
		return s[:at] + other + s[at+1:]
	case 1:
		return s[:at] + s[at+1:]
	case 2:
		return s[:at+1] + s[at:]
	case 3:
		return s[:at] + string([]byte{byte(from.Intn(256))}) + s[at:]
	}
	return s[:at] + other + s[at:]
}

// P14.1: texts of drawn patterns of which a sign is turned, left out, doubled or put in, once or more.
func TestTurnedTexts(t *testing.T) {
	from := rand.New(rand.NewSource(2))
	good := 0
	for range 40000 {
		s := regex.Put(drawn(from, 1+from.Intn(4)))
		for range 1 + from.Intn(3) {
			if s != "" {
				s = turned(from, s)
			}
			check(t, s)
			if _, err := modelParse(s); err == api.OK {
				good++
			}
		}
	}
	if good < 5000 {
		t.Errorf("%d were patterns", good)
	}
}

// P14.1: drawn texts of signs that mean something.
func TestDrawnTexts(t *testing.T) {
	from := rand.New(rand.NewSource(3))
	parts := []string{"a", "b", "|", "*", "+", "?", "{2}", "{1,}", "{1,2}", "(", ")", "(a)", "[ab]", "[^", "[", "]", ".", "^", "$", `\`, `\]`, "-", "a-c", "中", "{", "}", "\xff"}
	for range 60000 {
		var s strings.Builder
		for range 1 + from.Intn(1+from.Intn(30)) {
			s.WriteString(parts[from.Intn(len(parts)-from.Intn(2))])
		}
		check(t, s.String())
	}
}

// turnNode turns one field of one node in n.
func turnNode(from *rand.Rand, n *api.Node) {
	for len(n.Kids) > 0 && from.Intn(3) > 0 {
		n = &n.Kids[from.Intn(len(n.Kids))]
	}
	switch from.Intn(8) {
	case 0:
		n.Kind = from.Intn(10) - 1
	case 1:
		n.Not = !n.Not
	case 2:
		n.Min += from.Intn(21) - 10
	case 3:
		n.Max += from.Intn(21) - 10
	case 4:
		n.Set = append(n.Set, api.Range{Lo: rune(from.Intn(0x111000)), Hi: rune(from.Intn(0x111000))})
	case 5:
		n.Set = nil
	case 6:
		n.Kids = append(n.Kids, drawn(from, 5))
	case 7:
		if len(n.Kids) > 0 {
			n.Kids = n.Kids[1:]
		}
	}
}

// P14.1: drawn patterns of which fields are turned: May, Put and Eq against the model.
func TestTurnedPatterns(t *testing.T) {
	from := rand.New(rand.NewSource(4))
	good, bad := 0, 0
	for range 40000 {
		n := drawn(from, 1+from.Intn(4))
		x := ownNode(n)
		for range 1 + from.Intn(2) {
			turnNode(from, &x)
		}
		eq(t, n, x, same(n, x))
		if modelMay(x) {
			good++
			put(t, x)
			continue
		}
		bad++
		mayNot(t, x)
	}
	if good < 2000 || bad < 2000 {
		t.Errorf("%d may be, %d may not", good, bad)
	}
}

// P0.5: what was asked ahead changes no answer.
func TestAskedAgain(t *testing.T) {
	from := rand.New(rand.NewSource(5))
	texts := someTexts()
	for i := range texts[:100] {
		texts = append(texts, turned(from, texts[i]))
	}
	for range 5000 {
		check(t, texts[from.Intn(len(texts))])
	}
}
