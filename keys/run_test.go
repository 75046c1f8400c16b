package keys_test

import (
	"math/rand"
	"strings"
	"testing"

	"rotulus/keys"
)

// P19.1: all texts of no byte, one and two.
func TestShortTexts(t *testing.T) {
	found := 0
	try := func(key string) {
		check(t, key)
		for _, table := range []int{vi, emacs} {
			if keys.Deed(table, key) != 0 {
				found++
			}
		}
	}
	try("")
	for a := range 256 {
		try(string([]byte{byte(a)}))
		for b := range 256 {
			try(string([]byte{byte(a), byte(b)}))
		}
	}
	if found != 18+4+2 { // those of one byte of KVi, those of KEmacs, and Up of both
		t.Errorf("P19.1: %d of them do something", found)
	}
}

// P19.1: any byte behind a C- or an M-, and with the other case of these.
func TestHeldKeys(t *testing.T) {
	for _, front := range []string{"C-", "M-", "c-", "m-", "S-", "C+", "M_", "^", "C--", "M-C-", ""} {
		for b := range 256 {
			check(t, front+string([]byte{byte(b)}))
		}
		for _, table := range []int{vi, emacs} {
			for _, key := range modelNames(table) {
				check(t, front+key)
			}
		}
	}
}

// P19.1: every key with one byte less, another one, one more, or two that change places.
func TestSpoiledKeys(t *testing.T) {
	for _, table := range []int{vi, emacs} {
		for _, key := range modelNames(table) {
			for i := range len(key) + 1 {
				check(t, key[:i])
				check(t, key[i:])
				for b := range 256 {
					one := string([]byte{byte(b)})
					check(t, key[:i]+one+key[i:])
					if i < len(key) {
						check(t, key[:i]+one+key[i+1:])
					}
				}
				if i < len(key) {
					check(t, key[:i]+key[i+1:])
				}
				if i+1 < len(key) {
					check(t, key[:i]+key[i+1:i+2]+key[i:i+1]+key[i+2:])
				}
			}
			check(t, strings.ToUpper(key))
			check(t, strings.ToLower(key))
		}
	}
}

// P19.1: two keys in one text, with something between them or nothing.
func TestTwoKeys(t *testing.T) {
	all := append(modelNames(vi), modelNames(emacs)...)
	for _, a := range all {
		for _, b := range all {
			for _, between := range []string{"", " ", ", ", "-", "\x00"} {
				check(t, a+between+b)
			}
		}
	}
}

// P19.1: drawn texts of the signs that keys are made of.
func TestDrawnTexts(t *testing.T) {
	from := rand.New(rand.NewSource(19))
	parts := append(append(modelNames(vi), modelNames(emacs)...), strings.Split("C-Space M-<LeftRightUpDownEscapeEnter", "")...)
	for range 100000 {
		var key strings.Builder
		for range 1 + from.Intn(4) {
			key.WriteString(parts[from.Intn(len(parts))])
		}
		check(t, key.String())
	}
}

// P0.1: long texts, such as begin or end with a key too.
func TestLongTexts(t *testing.T) {
	const many = 1 << 22
	for _, key := range []string{"h", "C-b", "Left", "C-Space", " ", "\x00", "\xff"} {
		long := strings.Repeat(key, many/len(key))
		for _, table := range []int{vi, emacs} {
			hold(t, table, long, 0)
			hold(t, table, long+"h", 0)
			hold(t, table, "Left"+long, 0)
			hold(t, table, "C-b"+strings.Repeat(" ", many), 0)
		}
	}
}
