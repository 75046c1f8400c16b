package nfa_test

import (
	"math/rand"
	"regexp"
	"slices"
	"testing"

	"rotulus/api"
	"rotulus/regex"
)

// allTexts are all texts of up to so many of these signs.
func allTexts(signs string, most int) [][]rune {
	out := [][]rune{{}}
	for i := 0; i < len(out); i++ {
		if len(out[i]) == most {
			break
		}
		for _, r := range signs {
			out = append(out, append(slices.Clone(out[i]), r))
		}
	}
	return out
}

// around are the patterns of one node more around one of kids, or two of them.
func around(kids []api.Node) []api.Node {
	var out []api.Node
	for _, x := range kids {
		for _, times := range [][2]int{{0, -1}, {1, -1}, {2, -1}, {0, 0}, {0, 1}, {1, 1}, {2, 2}, {0, 2}, {1, 3}} {
			out = append(out, rep(x, times[0], times[1]))
		}
		for _, y := range kids {
			out = append(out, cat(x, y), alt(x, y))
		}
	}
	return out
}

// checkAll holds the machine of n against the model over these texts.
func checkAll(t *testing.T, n api.Node, texts [][]rune) {
	t.Helper()
	p := machine(t, n)
	for _, l := range texts {
		check(t, p, n, l)
	}
}

// P15.1: all patterns of a few nodes over all short texts of two signs.
func TestAllPatterns(t *testing.T) {
	alone := []api.Node{a, not(a), anySign, begin, end}
	one := around(alone)
	for _, n := range append(slices.Clone(alone), one...) {
		checkAll(t, n, allTexts("ab", 6))
	}
	two := around(append(slices.Clone(alone), one...))
	texts := allTexts("ab", 3)
	const parts = 16
	for part := range parts {
		t.Run("", func(t *testing.T) {
			t.Parallel()
			for i := part; i < len(two); i += parts {
				checkAll(t, two[i], texts)
			}
		})
	}
}

// P15.1: repeats within repeats, of what may be nothing and what may not.
func TestRepeatsWithinRepeats(t *testing.T) {
	times := [][2]int{{0, -1}, {1, -1}, {2, -1}, {0, 0}, {0, 1}, {1, 2}, {2, 2}, {0, 3}, {3, 3}}
	texts := append(allTexts("ab", 4), []rune("aaaaaaaaaaaaaa"), []rune("abababababab"), []rune("aabaabaabaab"))
	for _, x := range []api.Node{a, cat(a, b), alt(a, cat(a, b)), alt(a, begin), alt(b, end), cat(rep(a, 0, 1), rep(b, 0, 1)), alt(begin, end)} {
		t.Run("", func(t *testing.T) {
			t.Parallel()
			for _, i := range times {
				for _, j := range times {
					for _, k := range times {
						n := rep(rep(rep(x, i[0], i[1]), j[0], j[1]), k[0], k[1])
						checkAll(t, n, texts)
						checkAll(t, cat(n, b), texts[:15])
					}
				}
			}
		})
	}
}

// drawnSet is a set of signs near a and b.
func drawnSet(from *rand.Rand) api.Node {
	n := api.Node{Kind: api.NSet, Not: from.Intn(3) == 0}
	for range from.Intn(4) {
		x, y := rune('a'+from.Intn(8)), rune('a'+from.Intn(8))
		n.Set = append(n.Set, api.Range{Lo: min(x, y), Hi: max(x, y)})
	}
	if len(n.Set) == 0 {
		n.Not = true
	}
	if from.Intn(3) > 0 {
		return []api.Node{a, b}[from.Intn(2)]
	}
	return n
}

// drawn is a pattern of at most that depth, without bounds if none are wanted.
func drawn(from *rand.Rand, deep int, bounds bool) api.Node {
	kind := from.Intn(8)
	switch {
	case bounds && kind == 0:
		return []api.Node{begin, end}[from.Intn(2)]
	case deep <= 1 || kind < 3:
		return drawnSet(from)
	case kind < 5:
		least := from.Intn(3)
		if from.Intn(8) == 0 {
			least = from.Intn(10)
		}
		most := []int{-1, -1, least, min(9, least+from.Intn(3)), least + from.Intn(10-least)}[from.Intn(5)]
		return rep(drawn(from, deep-1, bounds), least, most)
	}
	n := api.Node{Kind: []int{api.NCat, api.NCat, api.NAlt}[kind-5]}
	for range 2 + from.Intn(3) {
		n.Kids = append(n.Kids, drawn(from, deep-1, bounds))
	}
	return n
}

// drawnText is a text of at most that many signs.
func drawnText(from *rand.Rand, most int) []rune {
	l := make([]rune, from.Intn(most+1))
	few := 1 + from.Intn(8)
	for i := range l {
		l[i] = rune('a' + from.Intn(few))
	}
	return l
}

// P15.1: drawn patterns over drawn texts.
func TestDrawn(t *testing.T) {
	for k := range 16 {
		t.Run("", func(t *testing.T) {
			t.Parallel()
			from := rand.New(rand.NewSource(int64(k)))
			tried, found := 0, 0
			for range 5000 {
				n := drawn(from, 2+from.Intn(4), true)
				if modelWeight(n).BitLen() > 14 {
					continue
				}
				p := machine(t, n)
				for range 4 {
					l := drawnText(from, 20)
					check(t, p, n, l)
					tried++
					if len(p.Ends(l, 0)) > 1 {
						found++
					}
				}
			}
			if tried < 15000 || found < 1000 {
				t.Errorf("%d tried, %d found", tried, found)
			}
		})
	}
}

// P15.1: drawn patterns without bounds against what the library makes of their texts, piece by piece.
func TestAgainstLibrary(t *testing.T) {
	from := rand.New(rand.NewSource(15))
	for range 1500 {
		n := drawn(from, 2+from.Intn(2), false)
		if modelWeight(n).BitLen() > 9 {
			continue
		}
		p := machine(t, n)
		whole := regexp.MustCompile(`\A(?s:` + regex.Put(n) + `)\z`)
		l := drawnText(from, 9)
		for at := range len(l) + 1 {
			var want []int
			for e := at; e <= len(l); e++ {
				if whole.MatchString(string(l[at:e])) {
					want = append(want, e)
				}
			}
			ends(t, p, n, l, at, want)
		}
	}
}

// P15.1: patterns of weights up to 20,000, drawn; of greater ones there is no machine.
func TestDrawnWeights(t *testing.T) {
	from := rand.New(rand.NewSource(16))
	light, heavy := 0, 0
	for range 6000 {
		n := drawn(from, 3+from.Intn(8), true)
		if !regex.May(n) {
			continue
		}
		for range from.Intn(6) {
			least := from.Intn(10)
			n = rep(n, least, []int{-1, 9, least}[from.Intn(3)])
		}
		if weight := modelWeight(n); weight.BitLen() <= 14 || weight.IsInt64() && weight.Int64() <= 20000 {
			machine(t, n)
			light++
			continue
		}
		heavy++
		refuse(t, n, api.ErrFull)
	}
	if light < 1000 || heavy < 500 {
		t.Errorf("%d were light, %d heavy", light, heavy)
	}
}
