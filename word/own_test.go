package word_test

import (
	"math/rand"
	"slices"
	"sync"
	"testing"

	"rotulus/api"
	"rotulus/word"
)

// ownLines are lines that share nothing with ls.
func ownLines(ls [][]api.Cell) [][]api.Cell {
	var out [][]api.Cell
	for _, l := range ls {
		out = append(out, slices.Clone(l))
	}
	return out
}

// sameLines says whether a and b have the same cells.
func sameLines(a, b [][]api.Cell) bool { return slices.EqualFunc(a, b, slices.Equal) }

// P0.3: the lines stay as they were, spare room too, and are not kept: they may be written into behind. What stands in the spare room is none of a line.
func TestLinesAreTheCallers(t *testing.T) {
	from := rand.New(rand.NewSource(1))
	for range 500 {
		all := append(readLines(drawnText(from, 5, 9)), readLine("spare"), readLine("a-b"))
		for i := range all {
			all[i] = append(all[i], readLine("ab-")[from.Intn(3):]...)
		}
		ls := slices.Clone(all)[:len(all)-2]
		for i, l := range ls {
			ls[i] = l[:from.Intn(len(l)+1)]
		}
		before, room := ownLines(ls), ownLines(all)
		words := runs(before)
		for _, s := range near(ls) {
			hold(t, ls, s, wanted(before, words, s))
		}
		if !sameLines(ls, before) || !sameLines(all, room) {
			t.Fatalf("P0.3: the lines %q are turned", short(before))
		}
		for _, l := range ls {
			for j := range l {
				l[j] = readLine("a- b")[from.Intn(4)]
			}
		}
		check(t, ls, near(ls))
		check(t, before, near(before))
	}
}

// P0.5: asked many times, in any order, it tells the same.
func TestAskedAgain(t *testing.T) {
	from := rand.New(rand.NewSource(2))
	type known struct {
		ls    [][]api.Cell
		words []run
	}
	var all []known
	for range 60 {
		ls := readLines(drawnText(from, 4, 8))
		all = append(all, known{ls, runs(ls)})
	}
	for range 40000 {
		x := all[from.Intn(len(all))]
		places := near(x.ls)
		s := places[from.Intn(len(places))]
		want := wanted(x.ls, x.words, s)
		switch from.Intn(3) {
		case 0:
			if got := word.Next(x.ls, s); got != want.next {
				t.Fatalf("P0.5: Next in %q from %v is %v, not %v", short(x.ls), s, got, want.next)
			}
		case 1:
			if got := word.Prev(x.ls, s); got != want.prev {
				t.Fatalf("P0.5: Prev in %q from %v is %v, not %v", short(x.ls), s, got, want.prev)
			}
		default:
			if got := word.End(x.ls, s); got != want.end {
				t.Fatalf("P0.5: End in %q from %v is %v, not %v", short(x.ls), s, got, want.end)
			}
		}
	}
}

// P0.5: the same lines asked by several at once tell each the same.
func TestAskedAtOnce(t *testing.T) {
	ls := readLines("ab  c-+d// e/中b/  /-")
	words := runs(ls)
	var all sync.WaitGroup
	for range 8 {
		all.Go(func() {
			for range 200 {
				for _, s := range near(ls) {
					hold(t, ls, s, wanted(ls, words, s))
				}
			}
		})
	}
	all.Wait()
}
