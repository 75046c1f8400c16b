package word_test

import (
	"regexp"
	"slices"
	"strings"

	"rotulus/api"
)

// The model writes each line as a text of blanks, a and -, one of these for each cell, lists the words that the library's regular expressions find there, and looks through that list from its one end or the other. It shares no code with the program.

// run is a word: its line, its first cell and its last one.
type run struct{ line, first, last int }

// kindOf is the kind of a sign.
func kindOf(r rune) int {
	switch {
	case r == 32:
		return 0
	case r >= 128 || strings.ContainsRune("ABCDEFGHIJKLMNOPQRSTUVWXYZabcdefghijklmnopqrstuvwxyz_0123456789", r):
		return 1
	}
	return 2
}

// marks is a line as a text of blanks, a and -.
func marks(l []api.Cell) string {
	var out strings.Builder
	for _, c := range l {
		out.WriteByte(" a-"[kindOf(c.R)])
	}
	return out.String()
}

var ofOneKind = regexp.MustCompile(`a+|-+`)

// runs are all words of lines, in their order.
func runs(ls [][]api.Cell) []run {
	var out []run
	for number, l := range ls {
		for _, x := range ofOneKind.FindAllStringIndex(marks(l), -1) {
			out = append(out, run{number, x[0], x[1] - 1})
		}
	}
	return out
}

// told is what Next, Prev and End tell from one place.
type told struct{ next, prev, end api.Spot }

// wanted is what is to be told from a place in lines that have these words.
func wanted(ls [][]api.Cell, all []run, s api.Spot) told {
	if s.Line < 0 || s.Line > len(ls)-1 || s.Off < 0 || s.Off > len(ls[s.Line]) {
		return told{s, s, s}
	}
	end := api.Spot{Line: len(ls) - 1, Off: len(ls[len(ls)-1])}
	out := told{next: end, end: end}
	for _, x := range slices.Backward(all) {
		if x.line > s.Line || x.line == s.Line && x.first > s.Off {
			out.next = api.Spot{Line: x.line, Off: x.first}
		}
		if x.line > s.Line || x.line == s.Line && x.last > s.Off {
			out.end = api.Spot{Line: x.line, Off: x.last}
		}
	}
	for _, x := range all {
		if x.line < s.Line || x.line == s.Line && x.first < s.Off {
			out.prev = api.Spot{Line: x.line, Off: x.first}
		}
	}
	return out
}
