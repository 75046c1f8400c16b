package nfa

import (
	"slices"

	"rotulus/api"
)

// crowd is the states that a machine may be in at a place, none of them twice.
type crowd struct {
	all []int
	has []bool
}

// newCrowd makes a crowd that so many states may be in.
func newCrowd(most int) *crowd { return &crowd{has: make([]bool, most)} }

// add puts a state in, if it is not in yet.
func (c *crowd) add(which int) {
	if !c.has[which] {
		c.has[which] = true
		c.all = append(c.all, which)
	}
}

// clear takes all states out.
func (c *crowd) clear() {
	for _, which := range c.all {
		c.has[which] = false
	}
	c.all = c.all[:0]
}

// spread adds to now all states that those in it lead to without a sign, at a place that is the beginning, the end, both or neither.
func (p *Prog) spread(now *crowd, begins, ends bool) {
	// What is added is gone into in its turn: each state once.
	for i := 0; i < len(now.all); i++ {
		if now.all[i] == len(p.states) {
			continue
		}
		s := &p.states[now.all[i]]
		switch {
		case s.kind == api.NBegin && begins, s.kind == api.NEnd && ends:
			now.add(s.next)
		case s.kind == api.NAlt:
			for _, way := range s.ways {
				now.add(way)
			}
		}
	}
}

// step adds to then the states that those of now lead to by a sign.
func (p *Prog) step(now, then *crowd, sign rune) {
	for _, which := range now.all {
		if which < len(p.states) && p.states[which].takes(sign) {
			then.add(p.states[which].next)
		}
	}
}

// takes tells whether sign is of the set that s takes; the set of a state that takes none is empty.
func (s *state) takes(sign rune) bool {
	_, in := slices.BinarySearchFunc(s.set, sign, against)
	return in != s.not
}

// against tells whether x lies below sign (-1), above it (1), or holds it.
func against(x api.Range, sign rune) int {
	switch {
	case x.Hi < sign:
		return -1
	case x.Lo > sign:
		return 1
	}
	return 0
}
