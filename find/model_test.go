package find_test

import (
	"math/bits"
	"slices"

	"rotulus/api"
)

// The model tells of a pattern and a line of at most 62 signs which parts of the line match, as a table: of each place the set of those at which something ends that begins there. What P16.1 says is then asked of the table alone. It makes no machine, and shares no code with the program.

// table is of each place the set of the ends, a bit each.
type table []uint64

// put is the table of a part from at to to alone.
func (x table) put(at, to int) { x[at] |= 1 << to }

// tableOf is the table of n over l.
func tableOf(n api.Node, l []rune) table {
	out := make(table, len(l)+1)
	switch n.Kind {
	case api.NSet:
		for at, sign := range l {
			if slices.ContainsFunc(n.Set, func(x api.Range) bool { return x.Lo <= sign && sign <= x.Hi }) != n.Not {
				out.put(at, at+1)
			}
		}
	case api.NBegin:
		out.put(0, 0)
	case api.NEnd:
		out.put(len(l), len(l))
	case api.NCat:
		out = nothing(len(l))
		for _, kid := range n.Kids {
			out = behind(out, tableOf(kid, l))
		}
	case api.NAlt:
		for _, kid := range n.Kids {
			out = either(out, tableOf(kid, l))
		}
	case api.NRep:
		return times(tableOf(n.Kids[0], l), n.Min, n.Max)
	}
	return out
}

// nothing is the table of the empty part, at every place of so many signs.
func nothing(long int) table {
	out := make(table, long+1)
	for at := range out {
		out.put(at, at)
	}
	return out
}

// behind is the table of a part of x and one of y behind it.
func behind(x, y table) table {
	out := make(table, len(x))
	for at := range x {
		for mid := range y {
			if x[at]>>mid&1 == 1 {
				out[at] |= y[mid]
			}
		}
	}
	return out
}

// either is the table of a part of x or of y.
func either(x, y table) table {
	out := make(table, len(x))
	for at := range out {
		out[at] = x[at] | y[at]
	}
	return out
}

// times is the table of least to most parts of x, one behind the other; more than there are signs lead nowhere else.
func times(x table, least, most int) table {
	if most == -1 {
		most = least + len(x)
	}
	out, so := make(table, len(x)), nothing(len(x)-1)
	for many := 0; many <= most; many++ {
		if many >= least {
			out = either(out, so)
		}
		so = behind(so, x)
	}
	return out
}

// hit is where something matches, and how long the longest there is.
type hit struct {
	at, long int
	ok       bool
}

// atOf is At.
func (x table) atOf(at int) int {
	if at < 0 || at >= len(x) || x[at] == 0 {
		return 0
	}
	return bits.Len64(x[at]) - 1 - at
}

// hits are all places at which something matches that is not empty, rising.
func (x table) hits() []hit {
	var out []hit
	for at := range x {
		if long := x.atOf(at); long > 0 {
			out = append(out, hit{at, long, true})
		}
	}
	return out
}

// nextOf is Next.
func (x table) nextOf(from int) hit {
	for _, h := range x.hits() {
		if h.at >= from {
			return h
		}
	}
	return hit{}
}

// lastOf is Last.
func (x table) lastOf(before int) hit {
	for _, h := range slices.Backward(x.hits()) {
		if h.at < before {
			return h
		}
	}
	return hit{}
}

// countOf is Count.
func (x table) countOf() int {
	many, behind := 0, 0
	for _, h := range x.hits() {
		if h.at >= behind {
			many++
			behind = h.at + h.long
		}
	}
	return many
}
