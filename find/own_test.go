package find_test

import (
	"math/rand"
	"slices"
	"sync"
	"testing"

	"rotulus/api"
	"rotulus/find"
	"rotulus/nfa"
	"rotulus/regex"
)

// askAll asks everything of p in l.
func askAll(p *nfa.Prog, l []rune) {
	for at := -1; at <= len(l)+1; at++ {
		find.At(p, l, at)
		find.Next(p, l, at)
		find.Last(p, l, at)
	}
	find.Count(p, l)
}

// P0.3: the line stays as it was, spare room too, and is not kept: it may be written into behind.
func TestLineIsTheCallers(t *testing.T) {
	from := rand.New(rand.NewSource(1))
	for range 400 {
		n := drawn(from, 1+from.Intn(4))
		p := machine(t, n)
		all := append(drawnText(from, 20), 'a', 'b', 'a')
		before := slices.Clone(all)
		l := all[: len(all)-3 : len(all)]
		askAll(p, l)
		if !slices.Equal(all, before) {
			t.Fatalf("P0.3: %s turns the line %q", regex.Put(n), string(before))
		}
		check(t, p, n, l)
		for i := range all {
			all[i] = rune('a' + from.Intn(3))
		}
		check(t, p, n, l)
		check(t, p, n, before)
	}
}

// P0.5: machines asked many times, in any order, tell the same.
func TestAskedAgain(t *testing.T) {
	from := rand.New(rand.NewSource(2))
	var nodes []api.Node
	var machines []*nfa.Prog
	for range 50 {
		n := drawn(from, 1+from.Intn(4))
		nodes, machines = append(nodes, n), append(machines, machine(t, n))
	}
	texts := append(allTexts("ab", 4), []rune("abcabcaabbcc"))
	for range 40000 {
		i := from.Intn(len(nodes))
		p, what, l := machines[i], regex.Put(nodes[i]), texts[from.Intn(len(texts))]
		x, at := tableOf(nodes[i], l), from.Intn(len(l)+5)-2
		switch from.Intn(4) {
		case 0:
			holdAt(t, p, what, l, at, x.atOf(at))
		case 1:
			holdNext(t, p, what, l, at, x.nextOf(at))
		case 2:
			holdLast(t, p, what, l, at, x.lastOf(at))
		case 3:
			holdCount(t, p, what, l, x.countOf())
		}
	}
}

// P0.5: one machine asked by several at once tells each the same.
func TestAskedAtOnce(t *testing.T) {
	n, p := read(t, "(a|ab)(b{1,2}|^|$)|b$")
	var all sync.WaitGroup
	for range 8 {
		all.Go(func() {
			for _, l := range allTexts("ab", 5) {
				x := tableOf(n, l)
				for at := range len(l) + 1 {
					holdAt(t, p, "it", l, at, x.atOf(at))
					holdNext(t, p, "it", l, at, x.nextOf(at))
					holdLast(t, p, "it", l, at, x.lastOf(at))
				}
				holdCount(t, p, "it", l, x.countOf())
			}
		})
	}
	all.Wait()
}
