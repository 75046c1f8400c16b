package esc_test

import (
	"slices"
	"strconv"
	"strings"
	"unicode/utf8"

	"rotulus/api"
)

// The model tells what the chapter asks by whole sequences, from the escape that begins one to the sign that ends it or breaks it off; it and the program share no code.

// moment is what is told with one sign, and whether a parser is at rest behind it.
type moment struct {
	event api.Event // Kind 0: none
	quiet bool
}

// model tells the moments of l, for a parser at rest.
func model(l []rune) []moment {
	out := make([]moment, len(l))
	for i := 0; i < len(l); {
		n, e, ended := sequence(l[i:])
		if ended {
			out[i+n-1] = moment{e, true}
		}
		i += n
	}
	return out
}

// sequence tells how many signs at the beginning of l make up the first sequence, and its event; false: it has no end yet, or the next one breaks it off.
func sequence(l []rune) (int, api.Event, bool) {
	if l[0] != 27 {
		return 1, alone(l[0]), true
	}
	if len(l) == 1 || l[1] == 27 {
		return 1, api.Event{}, false
	}
	switch l[1] {
	case '[':
		return wholeCsi(l)
	case ']':
		return wholeOsc(l)
	}
	return 2, api.Event{}, true
}

// alone is the event of a sign at rest that is no escape.
func alone(r rune) api.Event {
	if slices.Contains([]rune{8, 9, 10, 13}, r) {
		return api.Event{Kind: api.ECtrl, R: r}
	}
	if r <= 31 || r == 127 {
		return api.Event{}
	}
	return api.Event{Kind: api.EPrint, R: r}
}

// wholeCsi is sequence of a CSI.
func wholeCsi(l []rune) (int, api.Event, bool) {
	k := 2
	for k < len(l) && l[k] >= 32 && (l[k] <= 63 || l[k] >= 127) {
		k++
	}
	if k == len(l) || l[k] == 27 {
		return k, api.Event{}, false
	}
	body := string(l[2:k])
	if l[k] < 32 || strings.Trim(body, "0123456789;") != "" {
		return k + 1, api.Event{}, true
	}
	return k + 1, api.Event{Kind: api.ECsi, R: l[k], Args: numbers(body)}, true
}

// numbers are the numbers of a CSI's digits and semicolons.
func numbers(body string) []int {
	if body == "" {
		return nil
	}
	var out []int
	for _, x := range strings.Split(body, ";") {
		x = strings.TrimLeft(x, "0")
		n, _ := strconv.Atoi("0" + x)
		if len(x) > 4 {
			n = 9999
		}
		out = append(out, n)
	}
	return out[:min(len(out), 8)]
}

// wholeOsc is sequence of an OSC.
func wholeOsc(l []rune) (int, api.Event, bool) {
	var text []byte
	k := 2
	for k < len(l) && l[k] != 7 && l[k] != 27 {
		text = utf8.AppendRune(text, l[k])
		k++
	}
	switch {
	case k == len(l) || l[k] == 27 && k+1 == len(l):
		return len(l), api.Event{}, false
	case l[k] == 27 && l[k+1] != '\\':
		return k, api.Event{}, false
	case l[k] == 27:
		k++
	}
	if len(text) > 4000 {
		return k + 1, api.Event{}, true
	}
	return k + 1, api.Event{Kind: api.EOsc, Text: string(text)}, true
}
