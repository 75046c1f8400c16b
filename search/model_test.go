package search_test

import (
	"regexp"
	"slices"
	"strconv"
	"strings"
	"unicode/utf8"

	"rotulus/api"
)

// The model reads a pattern by the library's regular expressions, one for each place at which a match is to begin, lists all hits there are, and lays that list out in the order that P17.1 has from a place. It shares no code with the program.

// told is what Forward or Backward tells.
type told struct {
	hit api.Hit
	ok  bool
}

// none is what is told where there is no hit at all.
var none told

// book is a pattern, and its expressions for the places from 0 on.
type book struct {
	s  string
	at []*regexp.Regexp
}

// newBook reads the pattern s for lines of up to so many signs.
func newBook(s string, most int) *book {
	x := &book{s: s}
	for at := range most {
		re := regexp.MustCompile(`\A(?s:.{` + strconv.Itoa(at) + `})(?s:` + s + `)`)
		re.Longest()
		x.at = append(x.at, re)
	}
	return x
}

// long tells how long the longest match of the line l at a place is.
func (x *book) long(l string, at int) int {
	found := x.at[at].FindString(l)
	return max(utf8.RuneCountInString(found)-at, 0)
}

// hits are all hits in the lines of text (a / between two), in their order.
func (x *book) hits(text string) []api.Hit {
	var out []api.Hit
	for number, l := range strings.Split(text, "/") {
		for at := range utf8.RuneCountInString(l) {
			if long := x.long(l, at); long > 0 {
				out = append(out, api.Hit{Line: number, Off: at, Len: long})
			}
		}
	}
	return out
}

// parted are the hits ahead of a place, at it, and behind it.
func parted(hits []api.Hit, from api.Spot) (ahead, at, behind []api.Hit) {
	for _, h := range hits {
		switch {
		case h.Line < from.Line || h.Line == from.Line && h.Off < from.Off:
			ahead = append(ahead, h)
		case h.Line == from.Line && h.Off == from.Off:
			at = append(at, h)
		default:
			behind = append(behind, h)
		}
	}
	return ahead, at, behind
}

// outside tells whether from is no place in lines that are so long.
func outside(longs []int, from api.Spot) bool {
	return from.Line < 0 || from.Line > len(longs)-1 || from.Off < 0 || from.Off > longs[from.Line]
}

// first is the first one of a list.
func first(hits []api.Hit) told {
	if len(hits) == 0 {
		return none
	}
	return told{hits[0], true}
}

// forwardOf is what Forward tells in lines that are so long and have these hits.
func forwardOf(hits []api.Hit, longs []int, from api.Spot) told {
	if outside(longs, from) {
		return first(hits)
	}
	ahead, at, behind := parted(hits, from)
	return first(slices.Concat(behind, ahead, at))
}

// backwardOf is likewise what Backward tells.
func backwardOf(hits []api.Hit, longs []int, from api.Spot) told {
	hits = slices.Clone(hits)
	slices.Reverse(hits)
	if outside(longs, from) {
		return first(hits)
	}
	ahead, at, behind := parted(hits, from)
	return first(slices.Concat(ahead, behind, at))
}
