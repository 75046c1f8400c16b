package regex_test

import (
	"regexp"
	"slices"
	"strings"
	"unicode/utf8"

	"rotulus/api"
)

// The model cuts a text into tokens by the library's regular expressions and piles their nodes up by hand; it knows of no MaxRe. It and the program share no code.

// The tokens that are more than one sign.
var (
	setToken    = regexp.MustCompile(`(?s)^\[(\^?)((?:\\.|[^\]\\])*)\]`)
	itemToken   = regexp.MustCompile(`(?s)^(\\.|[^\\])(?:-(\\.|[^\\]))?`)
	escapeToken = regexp.MustCompile(`(?s)^\\.`)
	repeatToken = regexp.MustCompile(`^(?:[*+?]|\{[0-9]\}|\{[0-9],\}|\{[0-9],[0-9]\})`)
	plainToken  = regexp.MustCompile(`^[^|*+?{}()\[\].^$\\]`)
)

// pile is the rows of an alternation that has begun, the last of them not yet at its end.
type pile [][]api.Node

// add puts a piece behind the others of the last row.
func (p pile) add(n api.Node) { p[len(p)-1] = append(p[len(p)-1], n) }

// last takes the last piece off.
func (p pile) last() api.Node {
	row := p[len(p)-1]
	p[len(p)-1] = row[:len(row)-1]
	return row[len(row)-1]
}

// whole is the alternation; false: a row is empty.
func (p pile) whole() (api.Node, bool) {
	var rows []api.Node
	for _, pieces := range p {
		switch len(pieces) {
		case 0:
			return api.Node{}, false
		case 1:
			rows = append(rows, pieces[0])
		default:
			rows = append(rows, cat(pieces...))
		}
	}
	if len(rows) == 1 {
		return rows[0], true
	}
	return alt(rows...), true
}

// modelRead tells the pattern of s, were there no MaxRe.
func modelRead(s string) (api.Node, bool) {
	if !utf8.ValidString(s) || strings.Contains(s, "\ufffd") {
		return api.Node{}, false
	}
	piles := []pile{{nil}}
	mayRepeat := false // what stands ahead is an atom that may have a repeat
	for s != "" {
		top := piles[len(piles)-1]
		token := s[:1]
		ahead := mayRepeat
		mayRepeat = false
		switch s[0] {
		case '|':
			piles[len(piles)-1] = append(top, nil)
		case '(':
			piles = append(piles, pile{nil})
		case ')':
			n, ok := top.whole()
			if !ok || len(piles) == 1 {
				return api.Node{}, false
			}
			piles = piles[:len(piles)-1]
			piles[len(piles)-1].add(n)
			mayRepeat = true
		case '^':
			top.add(begin)
		case '$':
			top.add(end)
		case '*', '+', '?', '{':
			token = repeatToken.FindString(s)
			least, most := modelTimes(token)
			if token == "" || !ahead || most != -1 && most < least {
				return api.Node{}, false
			}
			top.add(rep(top.last(), least, most))
		default:
			n, length := modelSet(s)
			if length == 0 {
				return api.Node{}, false
			}
			token = s[:length]
			top.add(n)
			mayRepeat = true
		}
		s = s[len(token):]
	}
	n, ok := piles[0].whole()
	if !ok || len(piles) > 1 {
		return api.Node{}, false
	}
	return n, true
}

// modelTimes tells what a repeat means.
func modelTimes(token string) (least, most int) {
	switch {
	case token == "" || token == "*":
		return 0, -1
	case token == "+":
		return 1, -1
	case token == "?":
		return 0, 1
	case len(token) == 3:
		return int(token[1] - '0'), int(token[1] - '0')
	case len(token) == 4:
		return int(token[1] - '0'), -1
	}
	return int(token[1] - '0'), int(token[3] - '0')
}

// modelSet tells the set at the beginning of s and its length; 0: none stands there.
func modelSet(s string) (api.Node, int) {
	if s[0] == '.' {
		return anySign, 1
	}
	if token := escapeToken.FindString(s); token != "" {
		return one(bare(token)), len(token)
	}
	if token := plainToken.FindString(s); token != "" {
		return one(bare(token)), len(token)
	}
	token := setToken.FindStringSubmatch(s)
	if token == nil || token[2] == "" {
		return api.Node{}, 0
	}
	n := api.Node{Kind: api.NSet, Not: token[1] != ""}
	for items := token[2]; items != ""; {
		item := itemToken.FindStringSubmatch(items)
		x := api.Range{Lo: bare(item[1]), Hi: bare(item[1])}
		if item[2] != "" {
			x.Hi = bare(item[2])
		}
		if x.Lo > x.Hi {
			return api.Node{}, 0
		}
		n.Set = append(n.Set, x)
		items = items[len(item[0]):]
	}
	return n, len(token[0])
}

// bare is the sign that a token of one sign, escaped or not, stands for.
func bare(token string) rune {
	r, _ := utf8.DecodeLastRuneInString(token)
	return r
}

// modelParse is Parse.
func modelParse(s string) (api.Node, api.Errno) {
	if len(s) <= 60 {
		if n, ok := modelRead(s); ok {
			return n, api.OK
		}
	}
	return api.Node{}, api.ErrRegex
}

// modelMay is May: it goes level by level.
func modelMay(n api.Node) bool {
	level, many := []api.Node{n}, 0
	for deep := 1; len(level) > 0; deep++ {
		many += len(level)
		if deep > 40 || many > 2000 {
			return false
		}
		var below []api.Node
		for _, x := range level {
			if !modelAlone(x) {
				return false
			}
			below = append(below, x.Kids...)
		}
		level = below
	}
	return true
}

// modelAlone tells whether n has what its Kind names, and is zero without that.
func modelAlone(n api.Node) bool {
	rest := n
	rest.Kind = 0
	ok := false
	switch n.Kind {
	case api.NSet:
		rest.Set, rest.Not = nil, false
		ok = (n.Not || len(n.Set) > 0) && !slices.ContainsFunc(n.Set, wrong)
	case api.NCat, api.NAlt:
		rest.Kids = nil
		ok = len(n.Kids) > 1
	case api.NRep:
		rest.Kids, rest.Min, rest.Max = nil, 0, 0
		ok = len(n.Kids) == 1 && n.Min >= 0 && n.Min <= 9 && (n.Max == -1 || n.Max >= n.Min && n.Max <= 9)
	case api.NBegin, api.NEnd:
		ok = true
	}
	return ok && same(rest, api.Node{})
}

// wrong tells whether x is no Range of signs.
func wrong(x api.Range) bool {
	for _, r := range []rune{x.Lo, x.Hi} {
		if r < 0 || r > 0x10FFFF || r >= 0xD800 && r <= 0xDFFF || r == 0xFFFD {
			return true
		}
	}
	return x.Hi < x.Lo
}

// same is Eq.
func same(a, b api.Node) bool {
	return a.Kind == b.Kind && a.Not == b.Not && a.Min == b.Min && a.Max == b.Max &&
		slices.Equal(a.Set, b.Set) && slices.EqualFunc(a.Kids, b.Kids, same)
}
