package keys_test

import (
	"math/rand"
	"slices"
	"sync"
	"testing"

	"rotulus/keys"
)

// P0.3: what Names tells may be written into, spare room too: no other answer turns by it, one told ahead of it or behind it.
func TestNamesAreTheCallers(t *testing.T) {
	for _, table := range []int{vi, emacs, 0, 3, -1} {
		want := modelNames(table)
		kept := keys.Names(table)
		for range 3 {
			got := keys.Names(table)
			whole := got[:cap(got)]
			for i := range whole {
				whole[i] = "spoiled"
			}
			_ = append(got, "h", "C-b")
			slices.Reverse(whole)
			if !slices.Equal(kept, want) {
				t.Fatalf("P0.3: Names(%d), told ahead, is %q", table, kept)
			}
			for _, other := range []int{vi, emacs, 0, 3, -1} {
				if again := keys.Names(other); !slices.Equal(again, modelNames(other)) {
					t.Fatalf("P0.3: Names(%d), told behind, is %q", other, again)
				}
			}
			for _, key := range append(modelNames(vi), modelNames(emacs)...) {
				check(t, key)
			}
			check(t, "spoiled")
		}
	}
}

// P0.5: asked many times, in any order, it tells the same.
func TestAskedAgain(t *testing.T) {
	from := rand.New(rand.NewSource(1))
	all := append(append(modelNames(vi), modelNames(emacs)...), "", "x", "C-", "Lef")
	names := map[int][]string{}
	deeds := map[int]map[string]int{}
	for table := -1; table <= 4; table++ {
		names[table], deeds[table] = modelNames(table), modelDeeds(table)
	}
	for range 50000 {
		table := from.Intn(6) - 1
		if from.Intn(4) == 0 {
			if got := keys.Names(table); !slices.Equal(got, names[table]) {
				t.Fatalf("P0.5: Names(%d) is %q, not %q", table, got, names[table])
			}
			continue
		}
		key := all[from.Intn(len(all))]
		if got := keys.Deed(table, key); got != deeds[table][key] {
			t.Fatalf("P0.5: Deed(%d, %q) is %d, not %d", table, key, got, deeds[table][key])
		}
	}
}

// P0.5: asked by several at once it tells each the same.
func TestAskedAtOnce(t *testing.T) {
	var all sync.WaitGroup
	for range 8 {
		all.Go(func() {
			for range 50 {
				for _, table := range []int{vi, emacs} {
					got := keys.Names(table)
					if !slices.Equal(got, modelNames(table)) {
						t.Errorf("P0.5: Names(%d) is %q", table, got)
					}
					for _, key := range got {
						check(t, key)
					}
					clear(got)
				}
			}
		})
	}
	all.Wait()
}
