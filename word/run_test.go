package word_test

import (
	"math/rand"
	"slices"
	"strings"
	"testing"
	"time"

	"rotulus/api"
	"rotulus/line"
	"rotulus/word"
)

// allTexts are all texts of up to so many of these signs.
func allTexts(signs string, most int) []string {
	out, ring := []string{""}, []string{""}
	for range most {
		var next []string
		for _, s := range ring {
			for _, r := range signs {
				next = append(next, s+string(r))
			}
		}
		out, ring = append(out, next...), next
	}
	return out
}

// P18.1: few lines of few signs, all of them, from all places.
func TestAllLines(t *testing.T) {
	for _, signs := range []string{"a- /", "中 /", "a-/", "a /", "- /", "a中-"} {
		t.Run("", func(t *testing.T) {
			t.Parallel()
			for _, text := range allTexts(signs, 7) {
				ls := readLines(text)
				check(t, ls, near(ls))
			}
		})
	}
}

// drawnText is a text of at most so many lines of at most so many signs.
func drawnText(from *rand.Rand, most, long int) string {
	var out []string
	signs := []rune("a -  Zz09_é中!@[{~")
	from.Shuffle(len(signs), func(i, j int) { signs[i], signs[j] = signs[j], signs[i] })
	signs = signs[:1+from.Intn(len(signs))]
	for range 1 + from.Intn(most) {
		l := make([]rune, from.Intn(long+1))
		for i := range l {
			l[i] = signs[from.Intn(len(signs))]
			if i > 0 && from.Intn(2) == 0 {
				l[i] = l[i-1]
			}
		}
		out = append(out, string(l))
	}
	return strings.Join(out, "/")
}

// P18.1: drawn lines, from all places.
func TestDrawn(t *testing.T) {
	for k := range 16 {
		t.Run("", func(t *testing.T) {
			t.Parallel()
			from := rand.New(rand.NewSource(int64(k)))
			words := 0
			for range 400 {
				ls := readLines(drawnText(from, 8, 20))
				check(t, ls, append(near(ls), far()...))
				words += len(runs(ls))
			}
			if words < 2000 {
				t.Errorf("%d words", words)
			}
		})
	}
}

// P18.1: signs of any number.
func TestDrawnSigns(t *testing.T) {
	from := rand.New(rand.NewSource(20))
	for range 3000 {
		ls := make([][]api.Cell, 1+from.Intn(4))
		for i := range ls {
			for range from.Intn(10) {
				ls[i] = append(ls[i], api.Cell{R: rune(from.Intn(0xA0) - 8), W: from.Intn(4) - 1, A: from.Intn(300)})
			}
		}
		check(t, ls, near(ls))
	}
}

// beginnings are the places that Next tells, one behind the other, from the beginning of lines to their end.
func beginnings(ls [][]api.Cell) []api.Spot {
	end := at(len(ls)-1, len(ls[len(ls)-1]))
	var out []api.Spot
	for s := word.Next(ls, api.Spot{}); s != end; s = word.Next(ls, s) {
		out = append(out, s)
	}
	return out
}

// P18.1: by Next from the first place to the end, and by Prev back over the same beginnings; by End over the ends.
func TestThereAndBack(t *testing.T) {
	from := rand.New(rand.NewSource(21))
	for range 2000 {
		text := drawnText(from, 6, 15)
		ls := readLines(text)
		var first, last []api.Spot
		for _, x := range runs(ls) {
			if x.line > 0 || x.first > 0 {
				first = append(first, at(x.line, x.first))
			}
			if x.line > 0 || x.last > 0 {
				last = append(last, at(x.line, x.last))
			}
		}
		if got := beginnings(ls); !slices.Equal(got, first) {
			t.Fatalf("P18.1: Next goes through %q by %v, not %v", text, got, first)
		}
		end := at(len(ls)-1, len(ls[len(ls)-1]))
		var back, ends []api.Spot
		for s := word.Prev(ls, end); s != (api.Spot{}); s = word.Prev(ls, s) {
			back = append(back, s)
		}
		slices.Reverse(back)
		if !slices.Equal(back, first) {
			t.Fatalf("P18.1: Prev goes through %q by %v, not %v", text, back, first)
		}
		for s := word.End(ls, api.Spot{}); s != end; s = word.End(ls, s) {
			ends = append(ends, s)
		}
		if !slices.Equal(ends, last) {
			t.Fatalf("P18.1: End goes through %q by %v, not %v", text, ends, last)
		}
	}
}

// P18.1: lines that were laid out, at any width, and joined again have the same words.
func TestWidths(t *testing.T) {
	from := rand.New(rand.NewSource(22))
	for range 300 {
		ls := readLines(drawnText(from, 5, 20))
		for i, l := range ls {
			for len(l) > 0 && l[len(l)-1] == (api.Cell{R: ' ', W: 1}) {
				l = l[:len(l)-1]
			}
			ls[i] = l
		}
		words := runs(ls)
		for _, w := range []int{2, 3, 5, 8, 300} {
			joined := line.Join(line.All(ls, w))
			for _, s := range near(ls) {
				hold(t, joined, s, wanted(ls, words, s))
			}
		}
		if t.Failed() {
			t.FailNow()
		}
	}
}

// soon fails if f takes long.
func soon(t *testing.T, f func()) {
	t.Helper()
	done := make(chan bool)
	go func() {
		f()
		close(done)
	}()
	select {
	case <-done:
	case <-time.After(2 * time.Minute):
		t.Fatal("P0.1: it does not end soon")
	}
}

// P18.1: very many lines without a word, and one with it.
func TestManyLines(t *testing.T) {
	const many = 1 << 20
	ls := slices.Repeat([][]api.Cell{readLine("  "), nil}, many/2)
	soon(t, func() {
		end := at(many-1, 0)
		for _, s := range []api.Spot{at(0, 0), at(0, 2), at(1, 0), at(many/2, 1), at(many-2, 2), end} {
			hold(t, ls, s, told{end, at(0, 0), end})
		}
		ls[many/2] = readLine(" ab ")
		a, b := at(many/2, 1), at(many/2, 2)
		for _, s := range []api.Spot{at(0, 0), at(1, 0), at(many/2-1, 0), at(many/2, 0)} {
			hold(t, ls, s, told{a, at(0, 0), b})
		}
		hold(t, ls, a, told{end, at(0, 0), b})
		for _, s := range []api.Spot{b, at(many/2, 4), at(many/2+1, 0), at(many-2, 2), end} {
			hold(t, ls, s, told{end, a, end})
		}
	})
}

// P18.1: very long lines: of one word, and of very many, each of which is told in few steps.
func TestLongLines(t *testing.T) {
	const many = 1 << 20
	one := [][]api.Cell{nil, slices.Repeat(readLine("a"), many), readLine("-")}
	all := [][]api.Cell{slices.Repeat(readLine("a-"), many/2)}
	soon(t, func() {
		for _, s := range []api.Spot{at(1, 1), at(1, many/2), at(1, many-2)} {
			hold(t, one, s, told{at(2, 0), at(1, 0), at(1, many-1)})
		}
		hold(t, one, at(0, 0), told{at(1, 0), at(0, 0), at(1, many-1)})
		hold(t, one, at(1, many-1), told{at(2, 0), at(1, 0), at(2, 0)})
		hold(t, one, at(2, 0), told{at(2, 1), at(1, 0), at(2, 1)})
		hold(t, one, at(2, 1), told{at(2, 1), at(2, 0), at(2, 1)})
		if got := len(beginnings(all)); got != many-1 {
			t.Errorf("P18.1: Next goes by %d words, not %d", got, many-1)
		}
		for off := range many - 1 {
			hold(t, all, at(0, off+1), told{at(0, min(off+2, many)), at(0, off), at(0, min(off+2, many))})
		}
	})
}
