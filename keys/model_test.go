package keys_test

import (
	"math"
	"sort"
	"strings"
)

// The model is the chapter's own table as a text, read by its columns. It shares no code with the program, not even the deeds' names.

// page is the chapter's table: the deed's number, its keys in KVi, its keys in KEmacs.
const page = `
1  | h Left   | C-b Left
2  | l Right  | C-f Right
3  | k Up     | C-p Up
4  | j Down   | C-n Down
5  | 0        | C-a
6  | $        | C-e
7  | g        | M-<
8  | G        | M->
9  | w        | M-f
10 | b        | M-b
19 | e        |
11 | v Space  | C-Space
12 | V        |
13 | C-v      | R
14 | y Enter  | M-w
15 | q Escape | q C-g
16 | n        | n
17 | N        | N
18 | o        | C-x
`

// vi and emacs are the tables' numbers.
const vi, emacs = 1, 2

// modelKeys are the keys that do each deed by a table, in the chapter's order.
func modelKeys(table int) map[int][]string {
	out := map[int][]string{}
	if table != vi && table != emacs {
		return out
	}
	for _, l := range strings.Split(strings.TrimSpace(page), "\n") {
		columns := strings.Split(l, "|")
		deed := 0
		for _, digit := range strings.TrimSpace(columns[0]) {
			deed = 10*deed + int(digit-'0')
		}
		out[deed] = strings.Fields(columns[table])
	}
	return out
}

// modelDeeds are the deeds of all keys of a table.
func modelDeeds(table int) map[string]int {
	out := map[string]int{}
	for deed, keys := range modelKeys(table) {
		for _, key := range keys {
			out[key] = deed
		}
	}
	return out
}

// modelNames are all keys of a table, rising.
func modelNames(table int) []string {
	var out []string
	for key := range modelDeeds(table) {
		out = append(out, key)
	}
	sort.Strings(out)
	return out
}

// strangers are tables that there are not.
func strangers() []int {
	out := []int{math.MinInt, math.MinInt + 1, math.MinInt + 2, math.MaxInt - 1, math.MaxInt, -1 << 32, 1<<32 + 1, 1<<32 + 2, 1 << 31, 1<<16 + 1, 1<<16 + 2}
	for table := -300; table <= 300; table++ {
		if table != vi && table != emacs {
			out = append(out, table)
		}
	}
	return out
}
