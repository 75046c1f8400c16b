package find_test

import (
	"math/rand"
	"slices"
	"testing"
	"time"

	"rotulus/api"
)

// allTexts are all texts of up to so many of these signs.
func allTexts(signs string, most int) [][]rune {
	out := [][]rune{{}}
	for i := 0; i < len(out) && len(out[i]) < most; i++ {
		for _, r := range signs {
			out = append(out, append(slices.Clone(out[i]), r))
		}
	}
	return out
}

// around are the patterns of one node more around one of kids, or two of them.
func around(kids []api.Node) []api.Node {
	var out []api.Node
	for _, x := range kids {
		for _, many := range [][2]int{{0, -1}, {1, -1}, {0, 0}, {0, 1}, {2, 2}, {1, 3}} {
			out = append(out, rep(x, many[0], many[1]))
		}
		for _, y := range kids {
			out = append(out, cat(x, y), alt(x, y))
		}
	}
	return out
}

// P16.1: all patterns of a few nodes in all short lines of two signs.
func TestAllPatterns(t *testing.T) {
	alone := []api.Node{a, notA, anySign, begin, end}
	one := append(slices.Clone(alone), around(alone)...)
	for _, n := range one {
		p := machine(t, n)
		for _, l := range allTexts("ab", 6) {
			check(t, p, n, l)
		}
	}
	two := around(one)
	texts := append(allTexts("ab", 2), []rune("aabab"), []rune("bbaa"))
	const parts = 16
	for part := range parts {
		t.Run("", func(t *testing.T) {
			t.Parallel()
			for i := part; i < len(two); i += parts {
				p := machine(t, two[i])
				for _, l := range texts {
					check(t, p, two[i], l)
				}
			}
		})
	}
}

// drawnSet is a set of signs near a and b.
func drawnSet(from *rand.Rand) api.Node {
	if from.Intn(3) > 0 {
		return []api.Node{a, b}[from.Intn(2)]
	}
	n := api.Node{Kind: api.NSet, Not: from.Intn(3) == 0}
	for range 1 + from.Intn(2) {
		lo := rune('a' + from.Intn(4))
		n.Set = append(n.Set, api.Range{Lo: lo, Hi: lo + rune(from.Intn(3))})
	}
	return n
}

// drawn is a pattern of at most that depth.
func drawn(from *rand.Rand, deep int) api.Node {
	kind := from.Intn(9)
	switch {
	case kind == 0:
		return []api.Node{begin, end}[from.Intn(2)]
	case deep <= 1 || kind < 3:
		return drawnSet(from)
	case kind < 5:
		least := from.Intn(3)
		return rep(drawn(from, deep-1), least, []int{-1, least, least + from.Intn(3)}[from.Intn(3)])
	}
	var kids []api.Node
	for range 2 + from.Intn(3) {
		kids = append(kids, drawn(from, deep-1))
	}
	if kind < 7 {
		return alt(kids...)
	}
	return cat(kids...)
}

// drawnText is a text of at most that many signs.
func drawnText(from *rand.Rand, most int) []rune {
	l := make([]rune, from.Intn(most+1))
	few := 1 + from.Intn(5)
	for i := range l {
		l[i] = rune('a' + from.Intn(few))
	}
	return l
}

// P16.1: drawn patterns in drawn lines.
func TestDrawn(t *testing.T) {
	for k := range 16 {
		t.Run("", func(t *testing.T) {
			t.Parallel()
			from := rand.New(rand.NewSource(int64(k)))
			tried, found := 0, 0
			for range 800 {
				n := drawn(from, 1+from.Intn(5))
				p := machine(t, n)
				for range 3 {
					l := drawnText(from, 25)
					check(t, p, n, l)
					tried++
					if tableOf(n, l).countOf() > 1 {
						found++
					}
				}
			}
			if tried != 2400 || found < 500 {
				t.Errorf("%d tried, %d found", tried, found)
			}
		})
	}
}

// P16.1: long lines of drawn signs.
func TestDrawnLong(t *testing.T) {
	from := rand.New(rand.NewSource(16))
	for range 300 {
		n := drawn(from, 1+from.Intn(4))
		l := drawnText(from, 5)
		for len(l) < 56 {
			l = append(l, drawnText(from, 6)...)
		}
		check(t, machine(t, n), n, l)
	}
}

// soon fails if f takes long.
func soon(t *testing.T, f func()) {
	t.Helper()
	done := make(chan bool)
	go func() {
		f()
		close(done)
	}()
	select {
	case <-done:
	case <-time.After(2 * time.Minute):
		t.Fatal("P0.1: it does not end soon")
	}
}

// P16.1: lines of very many signs.
func TestLong(t *testing.T) {
	const many = 1 << 18
	l := slices.Repeat([]rune{'a'}, many)
	mixed := slices.Repeat([]rune("abb"), many/3)
	for _, x := range []struct {
		s     string
		l     []rune
		count int
		next  hit // from 0
		last  hit // before the length
	}{
		{"^a", l, 1, yes(0, 1), yes(0, 1)},
		{"a$", l, 1, yes(many-1, 1), yes(many-1, 1)},
		{"a", l, many, yes(0, 1), yes(many-1, 1)},
		{"aa", l, many / 2, yes(0, 2), yes(many-2, 2)},
		{"aaa", l, many / 3, yes(0, 3), yes(many-3, 3)},
		{"a{9}", l, many / 9, yes(0, 9), yes(many-9, 9)},
		{".*", l, 1, yes(0, many), yes(many-1, 1)},
		{"(a|aa)*", l, 1, yes(0, many), yes(many-1, 1)},
		{"((a*)*)+$", l, 1, yes(0, many), yes(many-1, 1)},
		{"b*", l, 0, none, none},
		{"^b", l, 0, none, none},
		{"^|$", l, 0, none, none},
		{"ab*", mixed, many / 3, yes(0, 3), yes(many/3*3-3, 3)},
		{"b", mixed, many / 3 * 2, yes(1, 1), yes(many/3*3-1, 1)},
		{"ba", mixed, many/3 - 1, yes(2, 2), yes(many/3*3-4, 2)},
		{"^(abb)*$", mixed, 1, yes(0, many/3*3), yes(0, many/3*3)},
	} {
		_, p := read(t, x.s)
		soon(t, func() {
			holdCount(t, p, x.s, x.l, x.count)
			holdNext(t, p, x.s, x.l, 0, x.next)
			holdNext(t, p, x.s, x.l, len(x.l), none)
			holdLast(t, p, x.s, x.l, len(x.l), x.last)
			holdLast(t, p, x.s, x.l, 0, none)
			holdAt(t, p, x.s, x.l, len(x.l), 0)
		})
	}
}

// P16.1: what fails late from every place ends too.
func TestFailsLate(t *testing.T) {
	l := slices.Repeat([]rune{'a'}, 1500)
	for _, s := range []string{".*b", "(a*)*b", "(a|aa)+b", "a*a*a*b", "((a+)+)+b$"} {
		_, p := read(t, s)
		soon(t, func() {
			holdCount(t, p, s, l, 0)
			holdNext(t, p, s, l, 0, none)
			holdLast(t, p, s, l, len(l), none)
		})
	}
}
