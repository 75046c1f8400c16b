package page

import (
	"testing"

	"rotulus/api"
)

// P5.1: of rows that are gone nothing is kept, which no answer would show.
func TestNothingKeptOfWhatIsGone(t *testing.T) {
	for n := range api.PageRows + 1 {
		p := New()
		for p.Add(api.Row{}) {
		}
		p.Cut(n)
		for i, b := range p.rows[p.Len():] {
			if b != nil {
				t.Errorf("Cut(%d): bytes %x are kept at %d", n, b, p.Len()+i)
			}
		}
	}
}
