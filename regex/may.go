package regex

import (
	"unicode/utf8"

	"rotulus/api"
)

// How great a pattern may be.
const (
	mostDeep  = 40
	mostNodes = 2000
)

// May tells whether n may be a pattern.
func May(n api.Node) bool {
	room := mostNodes
	return mayWithin(n, mostDeep, &room)
}

// mayWithin tells whether n may be, so deep at the most; it takes its nodes off room.
func mayWithin(n api.Node, deep int, room *int) bool {
	if deep == 0 || *room == 0 || !mayAlone(n) {
		return false
	}
	*room--
	for _, kid := range n.Kids {
		if !mayWithin(kid, deep-1, room) {
			return false
		}
	}
	return true
}

// mayAlone tells whether n may be, whatever its Kids are.
func mayAlone(n api.Node) bool {
	noSet := len(n.Set) == 0 && !n.Not
	noKids := len(n.Kids) == 0
	noTimes := n.Min == 0 && n.Max == 0
	switch n.Kind {
	case api.NSet:
		return maySet(n) && noKids && noTimes
	case api.NCat, api.NAlt:
		return noSet && len(n.Kids) >= 2 && noTimes
	case api.NRep:
		return noSet && len(n.Kids) == 1 && mayTimes(n.Min, n.Max)
	case api.NBegin, api.NEnd:
		return noSet && noKids && noTimes
	}
	return false
}

// maySet tells whether n, a set, may have the signs that it has.
func maySet(n api.Node) bool {
	for _, x := range n.Set {
		if !maySign(x.Lo) || !maySign(x.Hi) || x.Lo > x.Hi {
			return false
		}
	}
	return len(n.Set) > 0 || n.Not
}

// maySign tells whether sign may stand in a pattern.
func maySign(sign rune) bool { return utf8.ValidRune(sign) && sign != api.Bad }

// mayTimes tells whether something may come from least to most times.
func mayTimes(least, most int) bool {
	return 0 <= least && least <= api.MaxRep && (most == endless || least <= most && most <= api.MaxRep)
}
