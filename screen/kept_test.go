package screen

import (
	"testing"

	"rotulus/api"
)

// P9.2: of rows that went out nothing is kept, which no answer would show; the list of rows stays as long as the screen is high.
func TestNothingKeptOfWhatWentOut(t *testing.T) {
	for _, h := range []int{1, 2, 3, 24, 100} {
		s := New(80, h)
		for range 1000 {
			list := s.rows
			for _, out := range s.Do(api.Event{Kind: api.ECtrl, R: 10}) {
				checkGone(t, list, out)
			}
			if len(s.rows) != h || cap(s.rows) > 2*h+8 {
				t.Fatalf("%d high: there are %d rows, and room for %d", h, len(s.rows), cap(s.rows))
			}
			for _, r := range s.rows[h:cap(s.rows)] {
				if r.Cells != nil {
					t.Fatalf("%d high: a row is kept behind the last one", h)
				}
			}
		}
	}
}

// checkGone holds that a list of rows, as it was ahead of out's going, does not keep it.
func checkGone(t *testing.T, list []api.Row, out api.Row) {
	t.Helper()
	for _, r := range list {
		if &r.Cells[0] == &out.Cells[0] {
			t.Fatalf("%d high: a row that went out is kept", len(list))
		}
	}
}

// P9.1: of rows that are wider than the screen no more is kept than is seen.
func TestNothingKeptOfWhatIsCut(t *testing.T) {
	wide := api.Row{Cells: make([]api.Cell, 300)}
	for i := range wide.Cells {
		wide.Cells[i] = api.Cell{R: 'a', W: 1}
	}
	s := Of([]api.Row{wide, wide, wide}, 20, 2, api.Pos{}, 0)
	for _, r := range s.rows {
		if cap(r.Cells) > 2*20 {
			t.Errorf("there is room for %d cells", cap(r.Cells))
		}
	}
}
