package regex

import (
	"strings"

	"rotulus/api"
	"rotulus/utf"
)

// rank is how tightly the text of a node holds together.
type rank int

// The ranks, the loosest first. An anchor is a mere piece, since it may have no repeat.
const (
	alternation rank = iota
	row
	piece
	atom
)

// Put tells the shortest text that Parse reads as n: what Parse has read is never told too long for it. "": n may not be.
func Put(n api.Node) string {
	if !May(n) {
		return ""
	}
	return utf.Write(appendNode(nil, n, alternation))
}

// rankOf tells the rank of n's text without parentheses.
func rankOf(n api.Node) rank {
	switch n.Kind {
	case api.NAlt:
		return alternation
	case api.NCat:
		return row
	case api.NRep, api.NBegin, api.NEnd:
		return piece
	}
	return atom
}

// appendNode appends the text of n, in parentheses if it is looser than need.
func appendNode(out []rune, n api.Node, need rank) []rune {
	if rankOf(n) < need {
		out = append(out, '(')
		out = appendNode(out, n, alternation)
		return append(out, ')')
	}
	switch n.Kind {
	case api.NAlt:
		return appendKids(out, n.Kids, row, "|")
	case api.NCat:
		return appendKids(out, n.Kids, piece, "")
	case api.NRep:
		out = appendNode(out, n.Kids[0], atom)
		return appendText(out, repeat(n.Min, n.Max))
	case api.NBegin:
		return append(out, '^')
	case api.NEnd:
		return append(out, '$')
	}
	return appendSet(out, n)
}

// appendKids appends the texts of kids, each as tight as need, with between between them.
func appendKids(out []rune, kids []api.Node, need rank, between string) []rune {
	for i, kid := range kids {
		if i > 0 {
			out = appendText(out, between)
		}
		out = appendNode(out, kid, need)
	}
	return out
}

// appendText appends the signs of s.
func appendText(out []rune, s string) []rune { return append(out, utf.All(s)...) }

// repeat tells the repeat from least to most times.
func repeat(least, most int) string {
	switch {
	case least == 0 && most == endless:
		return "*"
	case least == 1 && most == endless:
		return "+"
	case least == 0 && most == 1:
		return "?"
	case most == endless:
		return "{" + digit(least) + ",}"
	case least == most:
		return "{" + digit(least) + "}"
	}
	return "{" + digit(least) + "," + digit(most) + "}"
}

// digit tells n, which has one digit.
func digit(n int) string { return string([]byte{byte('0' + n)}) }

// appendSet appends the text of n, a set.
func appendSet(out []rune, n api.Node) []rune {
	if len(n.Set) == 0 {
		return append(out, '.')
	}
	if len(n.Set) == 1 && isOne(n.Set[0]) && !n.Not {
		sign := n.Set[0].Lo
		return appendSign(out, sign, strings.ContainsRune(special, sign))
	}
	out = append(out, '[')
	if n.Not {
		out = append(out, '^')
	}
	for i := range n.Set {
		out = appendSigns(out, n, i)
	}
	return append(out, ']')
}

// appendSigns appends what stands in the set n for its Range i.
func appendSigns(out []rune, n api.Node, i int) []rune {
	x := n.Set[i]
	out = appendSign(out, x.Lo, needsEscape(n, i))
	if isOne(x) {
		return out
	}
	out = append(out, '-')
	return appendSign(out, x.Hi, endsSet(x.Hi))
}

// needsEscape tells whether the first sign of Range i needs a \ ahead of it, in the set n.
func needsEscape(n api.Node, i int) bool {
	x := n.Set[i]
	switch x.Lo {
	case '^':
		return i == 0 && !n.Not
	case '-':
		// Behind a sign that stands alone it would lie between two, but at the set's end.
		atEnd := i == len(n.Set)-1 && isOne(x)
		return i > 0 && isOne(n.Set[i-1]) && !atEnd
	}
	return endsSet(x.Lo)
}

// endsSet tells whether sign may stand nowhere in a set but behind a \.
func endsSet(sign rune) bool { return sign == ']' || sign == '\\' }

// appendSign appends sign, behind a \ if it is to be escaped.
func appendSign(out []rune, sign rune, escaped bool) []rune {
	if escaped {
		out = append(out, '\\')
	}
	return append(out, sign)
}

// isOne tells whether x is one sign.
func isOne(x api.Range) bool { return x.Lo == x.Hi }
