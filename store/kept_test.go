package store

import (
	"slices"
	"testing"

	"rotulus/api"
	"rotulus/page"
)

// fill adds so many rows.
func fill(s *Store, many int) {
	for range many {
		s.Add(api.Row{})
	}
}

// checkPages holds that a store has just as many pages as its rows need, none of them empty.
func checkPages(t *testing.T, s *Store) {
	t.Helper()
	many := 0
	for k, p := range s.pages {
		n := p.Len()
		inner := 0 < k && k < len(s.pages)-1
		if n == 0 || inner && n != api.PageRows {
			t.Errorf("page %d of %d has %d rows", k, len(s.pages), n)
		}
		many += n
	}
	if many != s.Len() {
		t.Errorf("%d rows in the pages, not %d", many, s.Len())
	}
}

// P6.1: of rows that are gone nothing is kept, which no answer would show: their page is cut, or it is off the list.
func TestNothingKeptOfWhatIsGone(t *testing.T) {
	for limit := range 50 {
		s := New(limit)
		for range 100 {
			s.Add(api.Row{})
			checkPages(t, s)
		}
		for n := limit; n >= 0; n -= 7 {
			s.SetLimit(n)
			checkPages(t, s)
		}
	}
}

// P6.1: the list of pages keeps none that is gone, in the room that it has left behind it either.
func TestListKeepsNoPageThatIsGone(t *testing.T) {
	for _, limit := range []int{0, 1, 16, 40} {
		s := New(limit)
		fill(s, limit)
		for range 100 {
			before := slices.Clip(s.pages)
			first := first(before)
			s.Add(api.Row{})
			if first != nil && first.Len() == 0 && before[0] != nil {
				t.Fatalf("limit %d: a page that is gone is kept", limit)
			}
		}
	}
}

// first tells the first page, nil if there is none.
func first(pages []*page.Page) *page.Page {
	if len(pages) == 0 {
		return nil
	}
	return pages[0]
}

// P6.1: behind a limit that falls the list of pages has no room for all those that went.
func TestListFallsWithTheLimit(t *testing.T) {
	s := New(100000)
	fill(s, 100000)
	for _, n := range []int{1000, 100, 1, 0} {
		s.SetLimit(n)
		if most := 2*(n/api.PageRows) + 8; cap(s.pages) > most {
			t.Errorf("SetLimit(%d): the list has room for %d pages", n, cap(s.pages))
		}
	}
}

// P6.1: a row that is refused leaves nothing behind, no empty page either.
func TestRefusedLeavesNoPage(t *testing.T) {
	for _, many := range []int{0, 1, 15, 16, 17, 32} {
		s := New(100)
		fill(s, many)
		s.Add(api.Row{Cells: []api.Cell{{R: 7, W: 1}}})
		checkPages(t, s)
	}
}
