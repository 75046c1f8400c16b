package keys_test

import (
	"slices"
	"sort"
	"strings"
	"testing"

	"rotulus/api"
	"rotulus/keys"
)

// hold holds Deed of a key by a table against what is wanted.
func hold(t *testing.T, table int, key string, want int) {
	t.Helper()
	if got := keys.Deed(table, key); got != want {
		t.Errorf("P19.1: Deed(%d, %.60q) is %d, not %d", table, key, got, want)
	}
}

// ofVi and ofEmacs are the deeds of both tables by the model, read once.
var ofVi, ofEmacs = modelDeeds(vi), modelDeeds(emacs)

// check holds Deed of a key by both tables against the model.
func check(t *testing.T, key string) {
	t.Helper()
	hold(t, vi, key, ofVi[key])
	hold(t, emacs, key, ofEmacs[key])
}

// P19.1: every key of both tables with its deed, written out by the names of api.
func TestEveryKey(t *testing.T) {
	for _, x := range []struct {
		table int
		key   string
		deed  int
	}{
		{api.KVi, "h", api.KLeft}, {api.KVi, "Left", api.KLeft},
		{api.KVi, "l", api.KRight}, {api.KVi, "Right", api.KRight},
		{api.KVi, "k", api.KUp}, {api.KVi, "Up", api.KUp},
		{api.KVi, "j", api.KDown}, {api.KVi, "Down", api.KDown},
		{api.KVi, "0", api.KStart}, {api.KVi, "$", api.KEnd},
		{api.KVi, "g", api.KTop}, {api.KVi, "G", api.KBottom},
		{api.KVi, "w", api.KNextWord}, {api.KVi, "b", api.KPrevWord}, {api.KVi, "e", api.KWordEnd},
		{api.KVi, "v", api.KMark}, {api.KVi, "Space", api.KMark},
		{api.KVi, "V", api.KMarkLine}, {api.KVi, "C-v", api.KRect},
		{api.KVi, "y", api.KCopy}, {api.KVi, "Enter", api.KCopy},
		{api.KVi, "q", api.KQuit}, {api.KVi, "Escape", api.KQuit},
		{api.KVi, "n", api.KAgain}, {api.KVi, "N", api.KBack}, {api.KVi, "o", api.KSwap},

		{api.KEmacs, "C-b", api.KLeft}, {api.KEmacs, "Left", api.KLeft},
		{api.KEmacs, "C-f", api.KRight}, {api.KEmacs, "Right", api.KRight},
		{api.KEmacs, "C-p", api.KUp}, {api.KEmacs, "Up", api.KUp},
		{api.KEmacs, "C-n", api.KDown}, {api.KEmacs, "Down", api.KDown},
		{api.KEmacs, "C-a", api.KStart}, {api.KEmacs, "C-e", api.KEnd},
		{api.KEmacs, "M-<", api.KTop}, {api.KEmacs, "M->", api.KBottom},
		{api.KEmacs, "M-f", api.KNextWord}, {api.KEmacs, "M-b", api.KPrevWord},
		{api.KEmacs, "C-Space", api.KMark}, {api.KEmacs, "R", api.KRect},
		{api.KEmacs, "M-w", api.KCopy},
		{api.KEmacs, "q", api.KQuit}, {api.KEmacs, "C-g", api.KQuit},
		{api.KEmacs, "n", api.KAgain}, {api.KEmacs, "N", api.KBack}, {api.KEmacs, "C-x", api.KSwap},
	} {
		hold(t, x.table, x.key, x.deed)
		if got := modelDeeds(x.table)[x.key]; got != x.deed {
			t.Errorf("the model has %d for %q of %d, not %d", got, x.key, x.table, x.deed)
		}
	}
	if len(modelDeeds(vi)) != 26 || len(modelDeeds(emacs)) != 22 {
		t.Errorf("the model has %d and %d keys", len(modelDeeds(vi)), len(modelDeeds(emacs)))
	}
}

// P19.1: a key of one table alone is none of the other.
func TestKeysOfOneTable(t *testing.T) {
	alone := map[int][]string{
		vi:    strings.Fields("h l k j 0 $ g G w b e v Space V C-v y Enter Escape o"),
		emacs: strings.Fields("C-b C-f C-p C-n C-a C-e M-< M-> M-f M-b C-Space R M-w C-g C-x"),
	}
	for table, list := range alone {
		for _, key := range list {
			hold(t, vi+emacs-table, key, 0)
			if keys.Deed(table, key) == 0 || slices.Contains(keys.Names(vi+emacs-table), key) {
				t.Errorf("P19.1: %q is of table %d alone", key, table)
			}
		}
	}
	for _, x := range []struct {
		deed                 int
		ofVi, ofEmacs, other string
	}{
		{api.KRect, "C-v", "R", ""},
		{api.KMark, "Space", "C-Space", "v"},
		{api.KQuit, "Escape", "C-g", "q"},
		{api.KCopy, "Enter", "M-w", "y"},
	} {
		hold(t, vi, x.ofVi, x.deed)
		hold(t, emacs, x.ofVi, 0)
		hold(t, emacs, x.ofEmacs, x.deed)
		hold(t, vi, x.ofEmacs, 0)
		if x.other != "" {
			hold(t, vi, x.other, x.deed)
		}
	}
}

// P19.1: the keys that both have do the same, and there are no others that both have.
func TestKeysOfBoth(t *testing.T) {
	both := map[string]int{"Left": api.KLeft, "Right": api.KRight, "Up": api.KUp, "Down": api.KDown, "q": api.KQuit, "n": api.KAgain, "N": api.KBack}
	for key, deed := range both {
		hold(t, vi, key, deed)
		hold(t, emacs, key, deed)
	}
	found := 0
	for _, key := range keys.Names(vi) {
		if slices.Contains(keys.Names(emacs), key) {
			found++
			if both[key] == 0 {
				t.Errorf("P19.1: %q is of both tables", key)
			}
		}
	}
	if found != len(both) {
		t.Errorf("P19.1: %d keys are of both tables, not %d", found, len(both))
	}
}

// P19.1: which keys do a deed; KWordEnd and KMarkLine have none in KEmacs.
func TestKeysOfDeeds(t *testing.T) {
	for _, table := range []int{vi, emacs} {
		got := map[int][]string{}
		for _, key := range keys.Names(table) {
			deed := keys.Deed(table, key)
			if deed < api.KLeft || deed > api.KWordEnd {
				t.Errorf("P19.1: %q of %d is told, and does %d", key, table, deed)
			}
			got[deed] = append(got[deed], key)
		}
		for deed := api.KLeft; deed <= api.KWordEnd; deed++ {
			want := modelKeys(table)[deed]
			sort.Strings(want)
			if !slices.Equal(got[deed], want) {
				t.Errorf("P19.1: the keys of %d by %d are %q, not %q", deed, table, got[deed], want)
			}
			none := table == emacs && (deed == api.KWordEnd || deed == api.KMarkLine)
			if none != (len(got[deed]) == 0) {
				t.Errorf("P19.1: the keys of %d by %d are %q", deed, table, got[deed])
			}
		}
	}
}

// P19.1: texts that are no keys.
func TestNoKeys(t *testing.T) {
	for _, key := range []string{
		"", " ", "  ", "\t", "\n", "\x00", "\x1b", "\r", "\x7f", "\x02", "\x16",
		"x", "a", "c", "d", "i", "z", "A", "Z", "1", "9", "-", "<", ">", "/", "?", "^", "%", "#", "00", "$$", "gg", "hh", "none", "none,",
		// Other cases.
		"H", "L", "K", "J", "W", "B", "E", "Y", "Q", "O", "r", "left", "LEFT", "lEFT", "right", "up", "UP", "down", "space", "SPACE", "enter", "escape", "ESCAPE",
		"c-b", "C-B", "c-v", "C-V", "m-f", "M-F", "m-<", "c-Space", "C-space", "C-SPACE", "m-w", "M-W", "C-G", "C-X",
		// A blank about it, or within it.
		" h", "h ", " h ", "\th", "h\n", "h\x00", "\x00h", " Left", "Left ", "Le ft", " C-b", "C-b ", "C -b", "C- b", "M- f", " Space", "C- Space", "C-Space ", "$ ", " 0", "q\r",
		// The beginnings of others, and such as begin with others.
		"C", "C-", "M", "M-", "L", "Le", "Lef", "Lefts", "Leftt", "R-", "Ri", "Righ", "Rights", "U", "Ups", "D", "Dow", "Downs", "S", "Spac", "Spaces", "E", "Ente", "Enters", "Escap", "Escapes", "Esc", "C-Spac", "C-Spaces", "C-S", "C-bb", "C-b-", "C-vv", "M-ff", "M-<<", "M-<>", "M->>", "qq", "nn", "nN", "Nn",
		// The ends of others, and such as end with others.
		"-b", "-v", "-f", "-<", "eft", "pace", "-Space", "xh", "xLeft", "CC-b", "C-C-b", "M-M-f", "M-C-b", "S-Left", "C-Left", "M-Left",
		// A key's name and something else of it.
		"C-h", "C-l", "C-j", "C-k", "C-0", "C-d", "C-u", "C-y", "C-q", "C-c", "C-R", "M-b-", "M-v", "M-n", "M-x", "M-q", "M-Space", "C-<", "C->", "Tab", "Home", "End", "PageUp", "PageDown", "BSpace", "Return", "F1",
		// Names of deeds, and of the table's own signs.
		"KLeft", "KWordEnd", "`h`", "h, Left", "h Left", "h,Left", "`h`, `Left`", "|", "KVi", "KEmacs",
		// Signs that look alike.
		"\uff48", "\u0068\u0301", "C\u2010b", "C\u2212b", "M\u2013f", "\ufeffh", "h\u200b", "\uff04", "\u041d", "M-\u2039",
		// Broken bytes.
		"\xff", "\xc3", "h\xff", "\xffh", "\xe2\x82", "C-\xff", "C-b\x80", "\xed\xa0\x80", "Lef\xf4", "\xf4\x90\x80\x80", "\xc1\xa8", "\xe8",
	} {
		hold(t, vi, key, 0)
		hold(t, emacs, key, 0)
	}
}

// P19.1: tables that there are not: no key does anything, and there are none.
func TestOtherTables(t *testing.T) {
	if api.KVi != vi || api.KEmacs != emacs {
		t.Fatal("the tables' numbers")
	}
	every := append(append(modelNames(vi), modelNames(emacs)...), "", " ", "x", "\xff")
	for _, table := range strangers() {
		for _, key := range every {
			hold(t, table, key, 0)
		}
		if got := keys.Names(table); len(got) != 0 {
			t.Errorf("P19.1: Names(%d) is %q", table, got)
		}
	}
}

// P19.1: all keys of the tables, rising by bytes, each once.
func TestNames(t *testing.T) {
	for table, want := range map[int]string{
		vi:    "$ 0 C-v Down Enter Escape G Left N Right Space Up V b e g h j k l n o q v w y",
		emacs: "C-Space C-a C-b C-e C-f C-g C-n C-p C-x Down Left M-< M-> M-b M-f M-w N R Right Up n q",
	} {
		got := keys.Names(table)
		if !slices.Equal(got, strings.Fields(want)) {
			t.Errorf("P19.1: Names(%d) is %q, not %q", table, got, strings.Fields(want))
		}
		if !slices.Equal(got, modelNames(table)) {
			t.Errorf("P19.1: Names(%d) is %q, not %q", table, got, modelNames(table))
		}
		for i := range got[1:] {
			if got[i] >= got[i+1] {
				t.Errorf("P19.1: Names(%d) tells %q ahead of %q", table, got[i], got[i+1])
			}
		}
		for _, key := range got {
			if keys.Deed(table, key) == 0 {
				t.Errorf("P19.1: Names(%d) tells %q, which does nothing", table, key)
			}
		}
	}
}
