package regex

import (
	"strings"

	"rotulus/api"
)

// reader reads a pattern sign by sign. Once it is broken it has no signs left, so that whatever asks for more comes to its end.
type reader struct {
	left   []rune
	broken bool // it is no pattern
}

// refuse breaks the reading off.
func (r *reader) refuse() { *r = reader{broken: true} }

// sees tells whether sign comes next.
func (r *reader) sees(sign rune) bool { return len(r.left) > 0 && r.left[0] == sign }

// take goes on behind sign; false: it does not come next.
func (r *reader) take(sign rune) bool {
	if !r.sees(sign) {
		return false
	}
	r.left = r.left[1:]
	return true
}

// need goes on behind sign, which has to come next.
func (r *reader) need(sign rune) {
	if !r.take(sign) {
		r.refuse()
	}
}

// next takes whatever sign comes next.
func (r *reader) next() rune {
	if len(r.left) == 0 {
		r.refuse()
		return 0
	}
	sign := r.left[0]
	r.left = r.left[1:]
	return sign
}

// alternation takes rows, with | between.
func (r *reader) alternation() api.Node {
	rows := []api.Node{r.row()}
	for r.take('|') {
		rows = append(rows, r.row())
	}
	return oneOrAll(api.NAlt, rows)
}

// row takes pieces, as many as there are.
func (r *reader) row() api.Node {
	pieces := []api.Node{r.piece()}
	for len(r.left) > 0 && !r.sees('|') && !r.sees(')') {
		pieces = append(pieces, r.piece())
	}
	return oneOrAll(api.NCat, pieces)
}

// oneOrAll makes one node of several; a node that is alone stays itself.
func oneOrAll(kind int, nodes []api.Node) api.Node {
	if len(nodes) == 1 {
		return nodes[0]
	}
	return api.Node{Kind: kind, Kids: nodes}
}

// piece takes an atom and the repeat behind it, if one is there.
func (r *reader) piece() api.Node {
	// A repeat behind an anchor is left where it stands, and no piece begins with one.
	switch {
	case r.take('^'):
		return api.Node{Kind: api.NBegin}
	case r.take('$'):
		return api.Node{Kind: api.NEnd}
	}
	return r.repeat(r.atom())
}

// atom takes an atom that may have a repeat.
func (r *reader) atom() api.Node {
	switch sign := r.next(); {
	case sign == '(':
		n := r.alternation()
		r.need(')')
		return n
	case sign == '.':
		return api.Node{Kind: api.NSet, Not: true}
	case sign == '[':
		return r.set()
	case sign == '\\':
		return justOne(r.next())
	case strings.ContainsRune(special, sign):
		r.refuse()
		return api.Node{}
	default:
		return justOne(sign)
	}
}

// justOne is the set of one sign.
func justOne(sign rune) api.Node {
	return api.Node{Kind: api.NSet, Set: []api.Range{{Lo: sign, Hi: sign}}}
}

// set takes what stands behind a [, up to its ].
func (r *reader) set() api.Node {
	n := api.Node{Kind: api.NSet, Not: r.take('^')}
	for !r.broken && !r.take(']') {
		n.Set = append(n.Set, r.signs())
	}
	if len(n.Set) == 0 {
		r.refuse()
	}
	return n
}

// signs takes a sign of a set, or a sign, a - and a sign.
func (r *reader) signs() api.Range {
	first := r.signOfSet()
	if !r.dashBetween() {
		return api.Range{Lo: first, Hi: first}
	}
	r.need('-')
	last := r.signOfSet()
	if first > last {
		r.refuse()
	}
	return api.Range{Lo: first, Hi: last}
}

// dashBetween tells whether a - comes next and has a sign of the set behind it.
func (r *reader) dashBetween() bool {
	return r.sees('-') && len(r.left) > 1 && r.left[1] != ']'
}

// signOfSet takes a sign that stands in a set, where no ] comes next.
func (r *reader) signOfSet() rune {
	sign := r.next()
	if sign == '\\' {
		return r.next()
	}
	return sign
}

// repeat takes the repeat that comes next, if one does, and tells n so many times.
func (r *reader) repeat(n api.Node) api.Node {
	switch {
	case r.take('*'):
		return times(n, 0, endless)
	case r.take('+'):
		return times(n, 1, endless)
	case r.take('?'):
		return times(n, 0, 1)
	case r.take('{'):
		least, most := r.bounds()
		return times(n, least, most)
	}
	return n
}

// times is n, from least to most times.
func times(n api.Node, least, most int) api.Node {
	return api.Node{Kind: api.NRep, Kids: []api.Node{n}, Min: least, Max: most}
}

// bounds takes what stands behind a {, up to its }.
func (r *reader) bounds() (least, most int) {
	least = r.digit()
	most = least
	if r.take(',') {
		most = endless
		if !r.sees('}') {
			most = r.digit()
		}
	}
	r.need('}')
	if most != endless && most < least {
		r.refuse()
	}
	return least, most
}

// digit takes a number of one digit.
func (r *reader) digit() int {
	n := int(r.next()) - '0'
	if n < 0 || n > api.MaxRep {
		r.refuse()
	}
	return n
}
