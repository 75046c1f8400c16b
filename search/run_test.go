package search_test

import (
	"math/rand"
	"slices"
	"strings"
	"testing"
	"time"

	"rotulus/api"
	"rotulus/line"
	"rotulus/search"
)

// allTexts are all texts of up to so many of these signs.
func allTexts(signs string, most int) []string {
	out, ring := []string{""}, []string{""}
	for range most {
		var next []string
		for _, s := range ring {
			for _, r := range signs {
				next = append(next, s+string(r))
			}
		}
		out, ring = append(out, next...), next
	}
	return out
}

// P17.1: few lines of few signs, all of them, from all places.
func TestAllLines(t *testing.T) {
	texts := allTexts("ab/", 6)
	for _, s := range []string{"a", "aa", "ab", "a+", "a*", "b?a", "a|ab", "ba|a", ".", "..", ".*", "^a", "a$", "^.$", "^a+", "a+$", "(^|b)a", "a(b|$)", "[^a]+", "^b|a$", "(ab)*", "a{2}|b"} {
		t.Run("", func(t *testing.T) {
			t.Parallel()
			p, x := machine(t, s), newBook(s, 6)
			for _, text := range texts {
				ls := readLines(text)
				check(t, p, s, ls, x.hits(text), near(ls))
			}
		})
	}
}

// drawnPattern is a pattern of at most that depth.
func drawnPattern(from *rand.Rand, deep int) string {
	kind := from.Intn(10)
	switch {
	case deep <= 1 || kind < 3:
		return []string{"a", "a", "b", "c", ".", "[^a]", "[ab]", "[b-d]", "中", "^", "$"}[from.Intn(11)]
	case kind < 5:
		return "(" + drawnPattern(from, deep-1) + ")" + []string{"*", "+", "?", "{2}", "{1,3}", "{2,}"}[from.Intn(6)]
	case kind < 7:
		return "(" + drawnPattern(from, deep-1) + "|" + drawnPattern(from, deep-1) + ")"
	}
	return drawnPattern(from, deep-1) + drawnPattern(from, deep-1)
}

// drawnShort is a drawn pattern that is not too long to be read.
func drawnShort(from *rand.Rand) string {
	for {
		if s := drawnPattern(from, 1+from.Intn(4)); len(s) <= api.MaxRe {
			return s
		}
	}
}

// drawnText is a text of at most so many lines of at most so many signs.
func drawnText(from *rand.Rand, most, long int) string {
	var out []string
	signs := []rune("abc中")[:1+from.Intn(4)]
	for range 1 + from.Intn(most) {
		l := make([]rune, from.Intn(long+1))
		for i := range l {
			l[i] = signs[from.Intn(len(signs))]
		}
		out = append(out, string(l))
	}
	return strings.Join(out, "/")
}

// P17.1: drawn patterns in drawn lines, from all places.
func TestDrawn(t *testing.T) {
	for k := range 16 {
		t.Run("", func(t *testing.T) {
			t.Parallel()
			from := rand.New(rand.NewSource(int64(k)))
			found, places := 0, 0
			for range 150 {
				s := drawnShort(from)
				p, x := machine(t, s), newBook(s, 12)
				for range 4 {
					text := drawnText(from, 6, 12)
					ls, hits := readLines(text), x.hits(text)
					all := append(near(ls), far()...)
					check(t, p, s, ls, hits, all)
					places += len(all)
					if len(hits) > 1 {
						found++
					}
				}
			}
			if found < 200 || places < 50000 {
				t.Errorf("%d found, %d places", found, places)
			}
		})
	}
}

// trimmed is text with lines that have no blanks at their ends.
func trimmed(text string) string {
	ls := strings.Split(text, "/")
	for i, l := range ls {
		ls[i] = strings.TrimRight(l, " ")
	}
	return strings.Join(ls, "/")
}

// R4: no other width turns line and offset of a hit, and what stands there is what matches.
func TestWidths(t *testing.T) {
	from := rand.New(rand.NewSource(4))
	for range 300 {
		s := drawnShort(from)
		text := trimmed(strings.ReplaceAll(drawnText(from, 5, 12), "c", " "))
		p, x := machine(t, s), newBook(s, 12)
		ls, hits := readLines(text), x.hits(text)
		for _, w := range []int{2, 3, 5, 8, 300} {
			rows := line.All(ls, w)
			joined := line.Join(rows)
			check(t, p, s, joined, hits, near(ls))
			for _, h := range hits {
				place := line.Place(joined, w, spotOf(h))
				if got := rows[place.Row].Cells[place.Col]; got != ls[h.Line][h.Off] {
					t.Fatalf("R4: %s in %q, %d wide: at %v stands %v, not %v", s, text, w, place, got, ls[h.Line][h.Off])
				}
				if got := line.Spot(rows, place); got != spotOf(h) {
					t.Fatalf("R4: %s in %q, %d wide: %v is %v, not %v", s, text, w, place, got, spotOf(h))
				}
			}
		}
	}
}

// soon fails if f takes long.
func soon(t *testing.T, f func()) {
	t.Helper()
	done := make(chan bool)
	go func() {
		f()
		close(done)
	}()
	select {
	case <-done:
	case <-time.After(2 * time.Minute):
		t.Fatal("P0.1: it does not end soon")
	}
}

// P17.1: very many lines.
func TestManyLines(t *testing.T) {
	const many = 200000
	ls := slices.Repeat([][]api.Cell{readLine("abc"), nil}, many/2)
	ls[many-2] = readLine("axc")
	a, x, none1 := machine(t, "a"), machine(t, "x"), machine(t, "z")
	soon(t, func() {
		holdForward(t, a, "a", ls, at(0, 0), yes(2, 0, 1))
		holdForward(t, a, "a", ls, at(many-2, 0), yes(0, 0, 1))
		holdForward(t, a, "a", ls, at(many-1, 0), yes(0, 0, 1))
		holdBackward(t, a, "a", ls, at(0, 0), yes(many-2, 0, 1))
		holdBackward(t, a, "a", ls, at(many, 0), yes(many-2, 0, 1))
		for _, from := range []api.Spot{{}, at(1, 0), at(many/2, 1), at(many-2, 1), at(many-1, 0), at(many, 0), at(-1, 0)} {
			holdForward(t, x, "x", ls, from, yes(many-2, 1, 1))
			holdBackward(t, x, "x", ls, from, yes(many-2, 1, 1))
			holdNone(t, none1, "z", ls, []api.Spot{from})
		}
	})
}

// P17.1: very long lines.
func TestLongLines(t *testing.T) {
	const many = 1 << 17
	long := slices.Repeat(readLine("ab"), many/2)
	ls := [][]api.Cell{long, readLine("c"), long}
	soon(t, func() {
		ab := machine(t, "ab")
		holdForward(t, ab, "ab", ls, at(0, many-2), yes(2, 0, 2))
		holdForward(t, ab, "ab", ls, at(0, many-4), yes(0, many-2, 2))
		holdForward(t, ab, "ab", ls, at(2, many-2), yes(0, 0, 2))
		holdBackward(t, ab, "ab", ls, at(2, 0), yes(0, many-2, 2))
		holdBackward(t, ab, "ab", ls, at(0, 0), yes(2, many-2, 2))
		holdBackward(t, ab, "ab", ls, at(2, many), yes(2, many-2, 2))
		c := machine(t, "c|^b|aa|bb")
		for _, from := range []api.Spot{{}, at(0, many/2), at(0, many), at(1, 0), at(1, 1), at(2, 0), at(2, many), at(2, many+1)} {
			holdForward(t, c, "c", ls, from, yes(1, 0, 1))
			holdBackward(t, c, "c", ls, from, yes(1, 0, 1))
		}
		all := machine(t, "^(ab)*$")
		holdForward(t, all, "all", ls, at(0, 0), yes(2, 0, many))
		holdForward(t, all, "all", ls, at(2, many), yes(0, 0, many))
		holdBackward(t, all, "all", ls, at(1, 0), yes(0, 0, many))
		holdBackward(t, all, "all", ls, at(0, 0), yes(2, 0, many))
	})
}

// P17.1: what fails late from every place ends too.
func TestFailsLate(t *testing.T) {
	ls := [][]api.Cell{slices.Repeat(readLine("a"), 600), readLine("b"), slices.Repeat(readLine("a"), 300)}
	for _, s := range []string{".*c", "(a*)*c", "(a|aa)+b", "a*a*a*ab", "((a+)+)+b$"} {
		p := machine(t, s)
		soon(t, func() {
			for _, from := range []api.Spot{{}, at(0, 500), at(1, 0), at(2, 300), at(3, 0)} {
				if hit, ok := search.Forward(ls, p, from); ok {
					t.Errorf("P17.1: Forward of %s from %v is %v", s, from, hit)
				}
				if hit, ok := search.Backward(ls, p, from); ok {
					t.Errorf("P17.1: Backward of %s from %v is %v", s, from, hit)
				}
			}
		})
	}
}
