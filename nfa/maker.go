package nfa

import (
	"cmp"
	"slices"

	"rotulus/api"
)

// state is one of a machine. By its kind it takes a sign (NSet) or stands at a bound (NBegin, NEnd), and leads to next; or it leads to each of ways and takes nothing (NAlt).
type state struct {
	kind int
	set  []api.Range // rising, none touching the one behind it
	not  bool
	next int
	ways []int
}

// maker is the states made so far.
type maker struct{ states []state }

// put puts s behind the others, and tells its number.
func (m *maker) put(s state) int {
	m.states = append(m.states, s)
	return len(m.states) - 1
}

// lead makes the states of n, as many as it weighs, that lead on to next; it tells the one that they begin with.
func (m *maker) lead(n api.Node, next int) int {
	switch n.Kind {
	case api.NCat:
		for _, kid := range slices.Backward(n.Kids) {
			next = m.lead(kid, next)
		}
		return next
	case api.NAlt:
		ways := make([]int, 0, len(n.Kids))
		for _, kid := range n.Kids {
			ways = append(ways, m.lead(kid, next))
		}
		return m.put(state{kind: api.NAlt, ways: ways})
	case api.NRep:
		if n.Max < 0 {
			return m.leadRound(n, next)
		}
		return m.leadTimes(n, next)
	}
	return m.put(state{kind: n.Kind, set: n.Set, not: n.Not, next: next})
}

// leadRound makes the states of n, a repeat without a most: one goes round, as often as one likes; ahead of it stand those that must be.
func (m *maker) leadRound(n api.Node, next int) int {
	round := m.put(state{kind: api.NAlt})
	once := m.lead(n.Kids[0], round)
	m.states[round].ways = []int{once, next}
	first := round
	for range n.Min {
		first = m.lead(n.Kids[0], first)
	}
	return first
}

// leadTimes makes the states of n, a repeat with a most: that many in a row, and one state that chooses at which of them to begin.
func (m *maker) leadTimes(n api.Node, next int) int {
	starts := []int{next} // where so many more are to come
	for range n.Max {
		next = m.lead(n.Kids[0], next)
		starts = append(starts, next)
	}
	return m.put(state{kind: api.NAlt, ways: starts[n.Min:]})
}

// own is n in new memory, its sets rising.
func own(n api.Node) api.Node {
	n.Set = rising(n.Set)
	n.Kids = slices.Clone(n.Kids)
	for i, kid := range n.Kids {
		n.Kids[i] = own(kid)
	}
	return n
}

// rising tells the signs of set by ranges that rise and do not touch, so that a set of many is asked in few steps.
func rising(set []api.Range) []api.Range {
	sorted := slices.Clone(set)
	slices.SortFunc(sorted, func(a, b api.Range) int { return cmp.Compare(a.Lo, b.Lo) })
	joined := sorted[:0]
	for _, x := range sorted {
		if last := len(joined) - 1; last >= 0 && x.Lo <= joined[last].Hi+1 {
			joined[last].Hi = max(joined[last].Hi, x.Hi)
			continue
		}
		joined = append(joined, x)
	}
	return slices.Clip(joined)
}
