package nfa_test

import (
	"math/rand"
	"reflect"
	"runtime"
	"slices"
	"sync"
	"testing"

	"rotulus/api"
	"rotulus/nfa"
)

// roomy is a copy of n with spare room behind each list.
func roomy(n api.Node) api.Node {
	n.Set = append(slices.Clone(n.Set), api.Range{Lo: 'x', Hi: 'y'}, api.Range{Lo: 'z', Hi: 'z'})[:len(n.Set)]
	n.Kids = append(slices.Clone(n.Kids), begin, a)[:len(n.Kids)]
	for i, kid := range n.Kids {
		n.Kids[i] = roomy(kid)
	}
	return n
}

// whole is a copy of n in which what is spare stands in the lists too.
func whole(n api.Node) api.Node {
	n.Set, n.Kids = slices.Clone(n.Set[:cap(n.Set)]), slices.Clone(n.Kids[:cap(n.Kids)])
	for i, kid := range n.Kids {
		n.Kids[i] = whole(kid)
	}
	return n
}

// spoil writes into all lists of n, spare room too.
func spoil(n api.Node) {
	for _, kid := range n.Kids {
		spoil(kid)
	}
	for i := range n.Set[:cap(n.Set)] {
		n.Set[:cap(n.Set)][i] = api.Range{Lo: 'q', Hi: -8}
	}
	for i := range n.Kids[:cap(n.Kids)] {
		n.Kids[:cap(n.Kids)][i] = api.Node{Kind: 99, Not: true, Min: -7, Max: 77}
	}
}

// drawnPatterns are patterns of all kinds.
func drawnPatterns(many int) []api.Node {
	from := rand.New(rand.NewSource(17))
	out := []api.Node{a, anySign, begin, end, set('c', 'e', 'a', 'a', 'b', 'd', 'x', 'z'), not(set('x', 'z', 'c', 'c', 'a', 'a'))}
	for len(out) < many {
		if n := drawn(from, 2+from.Intn(4), true); modelWeight(n).BitLen() < 12 {
			out = append(out, n)
		}
	}
	return out
}

// P0.3: Compile leaves the pattern as it was, spare room too, whether it makes a machine or not.
func TestPatternStays(t *testing.T) {
	all := append(drawnPatterns(300), api.Node{}, cat(a), alt(set('b', 'a'), b), nest(cat(set('c', 'd', 'a', 'b'), b), 20, times9), nest(set('c', 'd', 'a', 'b'), 45, times9), rep(set('c', 'd', 'a', 'c'), 0, 0))
	for _, n := range all {
		x := roomy(n)
		before := whole(x)
		p, _ := nfa.Compile(x)
		p.Ends([]rune("abcd"), 0)
		if !reflect.DeepEqual(whole(x), before) {
			t.Fatalf("P0.3: Compile of %s turns it", told(n))
		}
	}
}

// P0.3: writing into the pattern behind Compile turns nothing of the machine.
func TestPatternIsNotKept(t *testing.T) {
	from := rand.New(rand.NewSource(18))
	for _, n := range drawnPatterns(300) {
		x := roomy(n)
		p := machine(t, x)
		l := drawnText(from, 12)
		check(t, p, n, l)
		spoil(x)
		check(t, p, n, l)
		if want := modelWeight(n).Int64(); int64(p.Size()) != want {
			t.Fatalf("P0.3: Size of %s is %d, not %d", told(n), p.Size(), want)
		}
	}
}

// P0.3: Ends leaves the signs as they were, spare room too, and keeps none; writing into what it told turns nothing.
func TestSignsAndPlacesAreTheCallers(t *testing.T) {
	from := rand.New(rand.NewSource(19))
	for _, n := range drawnPatterns(300) {
		p := machine(t, n)
		text := append(drawnText(from, 12), 'a', 'b', 'x')
		spare := len(text) - 3
		before := slices.Clone(text)
		for at := range spare + 1 {
			first := p.Ends(text[:spare], at)
			second := p.Ends(text[:spare], at)
			want := slices.Clone(first)
			for i := range first[:cap(first)] {
				first[:cap(first)][i] = -9
			}
			if !slices.Equal(second, want) {
				t.Fatalf("P0.3: two answers of %s share memory", told(n))
			}
			ends(t, p, n, text[:spare], at, want)
		}
		if !slices.Equal(text, before) {
			t.Fatalf("P0.3: Ends of %s turns the signs", told(n))
		}
		l := slices.Clone(text[:spare])
		p.Ends(text[:spare], 0)
		for i := range text {
			text[i] = 'q'
		}
		check(t, p, n, l)
	}
}

// P0.5: one machine asked many times, in any order, and many machines in turn, tell the same.
func TestAskedAgain(t *testing.T) {
	from := rand.New(rand.NewSource(20))
	all := drawnPatterns(60)
	var machines []*nfa.Prog
	for _, n := range all {
		machines = append(machines, machine(t, n))
	}
	texts := allTexts("ab", 4)
	for range 30000 {
		i := from.Intn(len(all))
		l := texts[from.Intn(len(texts))]
		at := from.Intn(len(l)+3) - 1
		ends(t, machines[i], all[i], l, at, modelEnds(all[i], l, at))
	}
	for i, n := range all {
		if got, want := machines[i].Size(), modelWeight(n).Int64(); int64(got) != want {
			t.Errorf("P0.5: Size of %s is %d now, not %d", told(n), got, want)
		}
	}
}

// P0.5: one machine asked by several at once tells each the same.
func TestAskedAtOnce(t *testing.T) {
	n := read(t, "(a|ab)*(b{1,3}|^)+$")
	p := machine(t, n)
	texts := allTexts("ab", 6)
	var all sync.WaitGroup
	for range 8 {
		all.Go(func() {
			for _, l := range texts {
				for at := range len(l) + 1 {
					if got, want := p.Ends(l, at), modelEnds(n, l, at); !slices.Equal(got, want) {
						t.Errorf("P15.1: Ends over %q from %d are %v, not %v", short(l), at, got, want)
					}
				}
			}
		})
	}
	all.Wait()
}

// inUse are the bytes in use.
func inUse() uint64 {
	var m runtime.MemStats
	runtime.GC()
	runtime.GC()
	runtime.ReadMemStats(&m)
	return m.HeapAlloc
}

// A machine keeps nothing of what it is asked.
func TestKeepsNothing(t *testing.T) {
	p := machine(t, read(t, ".*"))
	before := inUse()
	for range 20 {
		p.Ends(make([]rune, 1<<20), 0)
	}
	if more := int64(inUse() - before); more > 1<<20 {
		t.Errorf("a machine keeps %d bytes", more)
	}
	runtime.KeepAlive(p)
}
