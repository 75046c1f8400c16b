package search_test

import (
	"math/rand"
	"slices"
	"sync"
	"testing"

	"rotulus/api"
	"rotulus/cell"
	"rotulus/nfa"
	"rotulus/search"
)

// ownLines are lines that share nothing with ls.
func ownLines(ls [][]api.Cell) [][]api.Cell {
	var out [][]api.Cell
	for _, l := range ls {
		out = append(out, slices.Clone(l))
	}
	return out
}

// sameLines says whether a and b have the same cells.
func sameLines(a, b [][]api.Cell) bool { return slices.EqualFunc(a, b, slices.Equal) }

// askAll asks everything of p in ls.
func askAll(p *nfa.Prog, ls [][]api.Cell) {
	for _, l := range ls {
		search.Signs(l)
	}
	for _, from := range near(ls) {
		search.Forward(ls, p, from)
		search.Backward(ls, p, from)
	}
}

// P0.3: the lines stay as they were, spare room too, and are not kept: they may be written into behind.
func TestLinesAreTheCallers(t *testing.T) {
	from := rand.New(rand.NewSource(1))
	for range 300 {
		s := drawnShort(from)
		p, x := machine(t, s), newBook(s, 12)
		text := drawnText(from, 5, 9)
		all := append(readLines(text), readLine("spare"), readLine("aab"))
		for i := range all {
			all[i] = append(all[i], readLine("aba")...)
		}
		ls := slices.Clone(all)[:len(all)-2]
		for i, l := range ls {
			ls[i] = l[:len(l)-3]
		}
		before, room := ownLines(ls), ownLines(all)
		askAll(p, ls)
		if !sameLines(ls, before) || !sameLines(all, room) {
			t.Fatalf("P0.3: %s turns the lines %q", s, text)
		}
		check(t, p, s, ls, x.hits(text), near(ls))
		other := ""
		for i, l := range ls {
			for j := range l {
				l[j] = cell.Of(rune('a'+from.Intn(3)), from.Intn(2))[0]
			}
			if i > 0 {
				other += "/"
			}
			other += cell.Text(l)
		}
		check(t, p, s, ls, x.hits(other), near(ls))
		check(t, p, s, before, x.hits(text), near(before))
	}
}

// P0.3: what Signs tells is the caller's, spare room too.
func TestSignsAreTheCallers(t *testing.T) {
	l := append(readLine("ab中"), readLine("xyz")...)[:3]
	first, second := search.Signs(l), search.Signs(l)
	for i := range first {
		first[i] = 'z'
	}
	room := append(first, 'p', 'q', 'r')
	room[0] = 'w'
	if want := []rune("ab中"); !slices.Equal(second, want) || !slices.Equal(search.Signs(l), want) {
		t.Error("P0.3: Signs tells memory that another call told")
	}
	if !slices.Equal(l[:6], readLine("ab中xyz")) {
		t.Error("P0.3: who writes into what Signs tells writes into the cells")
	}
	l[0], l[1] = cell.Blank(), cell.Pad()
	if !slices.Equal(second, []rune("ab中")) {
		t.Error("P0.3: who writes into the cells writes into what Signs told")
	}
	if got := search.Signs(l); !slices.Equal(got, []rune{' ', 0, 0x4E2D}) {
		t.Errorf("P17.1: Signs of cells that were written into are %v", got)
	}
}

// P0.5: asked many times, in any order, it tells the same.
func TestAskedAgain(t *testing.T) {
	from := rand.New(rand.NewSource(2))
	type known struct {
		s    string
		p    *nfa.Prog
		ls   [][]api.Cell
		hits []api.Hit
	}
	var all []known
	for range 60 {
		s, text := drawnShort(from), drawnText(from, 4, 8)
		all = append(all, known{s, machine(t, s), readLines(text), newBook(s, 8).hits(text)})
	}
	for range 40000 {
		x := all[from.Intn(len(all))]
		places := near(x.ls)
		place := places[from.Intn(len(places))]
		if from.Intn(2) == 0 {
			holdForward(t, x.p, x.s, x.ls, place, forwardOf(x.hits, longs(x.ls), place))
		} else {
			holdBackward(t, x.p, x.s, x.ls, place, backwardOf(x.hits, longs(x.ls), place))
		}
	}
}

// P0.5: one machine and the same lines asked by several at once tell each the same.
func TestAskedAtOnce(t *testing.T) {
	const s, text = "(a|ab)(b{1,2}|^|$)|b$", "abb/bab//aabab/b/a"
	p, ls, hits := machine(t, s), readLines(text), newBook(s, 5).hits(text)
	var all sync.WaitGroup
	for range 8 {
		all.Go(func() {
			for range 50 {
				for _, from := range near(ls) {
					holdForward(t, p, s, ls, from, forwardOf(hits, longs(ls), from))
					holdBackward(t, p, s, ls, from, backwardOf(hits, longs(ls), from))
				}
			}
		})
	}
	all.Wait()
}
