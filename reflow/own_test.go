package reflow_test

import (
	"math/rand"
	"slices"
	"testing"

	"rotulus/api"
	"rotulus/reflow"
)

// spoilRow writes into the cells of a row, their spare room too.
func spoilRow(r api.Row) {
	l := r.Cells[:cap(r.Cells)]
	for i := range l {
		l[i] = of('!', 1, 99)
	}
}

// spoilRows writes into rows, the spare room of each and of their list too.
func spoilRows(rows []api.Row) {
	rows = rows[:cap(rows)]
	for i, r := range rows {
		spoilRow(r)
		rows[i] = api.Row{Cells: letters(3), Wrap: !r.Wrap}
	}
}

// spoilMarks writes into marks, their spare room too.
func spoilMarks(marks []api.Pos) {
	marks = marks[:cap(marks)]
	for i := range marks {
		marks[i] = at(-77, 77)
	}
}

// roomyRows are rows with spare room behind each and behind all.
func roomyRows(rows []api.Row) []api.Row {
	out := append(slices.Clone(rows), readAll("spare|/room")...)
	for i, r := range out {
		out[i].Cells = append(slices.Clone(r.Cells), letters(5)...)[:len(r.Cells)]
	}
	return out[:len(rows)]
}

// roomyMarks are marks with spare room behind them.
func roomyMarks(marks []api.Pos) []api.Pos {
	return append(slices.Clone(marks), at(1, 1), at(2, 2))[:len(marks)]
}

// wholeRows are copies of rows with all their spare room.
func wholeRows(rows []api.Row) []api.Row {
	out := slices.Clone(rows[:cap(rows)])
	for i, r := range out {
		out[i].Cells = slices.Clone(r.Cells[:cap(r.Cells)])
	}
	return out
}

// someRows are rows of all kinds; some lists have rows that share their cells.
func someRows() [][]api.Row {
	die := rand.New(rand.NewSource(31))
	out := [][]api.Row{readAll("a"), readAll("abc"), readAll("abc|/中d|"), readAll("a.|/..|/.."), readAll("a/b/c"), readAll("ab/cd/.."), readAll("ab_|/中c/>|/x.."), readAll("/|/"), readAll("..."), slices.Repeat(readAll("ab"), 4), slices.Repeat(readAll("ab|"), 4)}
	for range 100 {
		out = append(out, thrownRows(die, 8, 8))
	}
	return out
}

// P11.1, P0.3: what is handed in stays, spare room too, and who writes into it afterwards turns nothing that was told.
func TestHandedIn(t *testing.T) {
	for _, rows := range someRows() {
		for _, w := range []int{1, 2, 3, 4, 300, 301} {
			marks := marksOf(rows)
			want, moved := modelRows(rows, w, marks...)
			handed, places := roomyRows(rows), roomyMarks(marks)
			before, placesBefore := wholeRows(handed), slices.Clone(places[:cap(places)])
			got, told := reflow.Rows(handed, w, places...)
			reflow.Same(handed, handed)
			if !slices.EqualFunc(wholeRows(handed), before, same) || !slices.Equal(places[:cap(places)], placesBefore) {
				t.Fatalf("%v, %d wide: what is handed in is changed", rows, w)
			}
			spoilRows(handed)
			spoilMarks(places)
			checkRows(t, "its rows spoiled", got, want)
			if !slices.Equal(told, moved) {
				t.Fatalf("its marks spoiled: %v, not %v", told, moved)
			}
		}
	}
}

// P11.1, P0.3: who writes into what was told, spare room too, turns neither what was handed in, nor another answer, nor the rest of the same one.
func TestToldIsOwn(t *testing.T) {
	for _, rows := range someRows() {
		for _, w := range []int{2, 3, 4, 300} {
			marks := marksOf(rows)
			want, moved := modelRows(rows, w, marks...)
			handed, places := roomyRows(rows), roomyMarks(marks)
			before, placesBefore := wholeRows(handed), slices.Clone(places[:cap(places)])
			one, oneMoved := reflow.Rows(handed, w, places...)
			other, otherMoved := reflow.Rows(handed, w, places...)
			for i := range one {
				spoilRow(one[i])
				checkRows(t, "the other rows", one[i+1:], want[i+1:])
			}
			spoilRows(one)
			if !slices.Equal(oneMoved, moved) {
				t.Fatalf("the rows spoiled: the marks %v, not %v", oneMoved, moved)
			}
			spoilMarks(oneMoved)
			checkRows(t, "another answer", other, want)
			if !slices.Equal(otherMoved, moved) {
				t.Fatalf("another answer: the marks %v, not %v", otherMoved, moved)
			}
			if !slices.EqualFunc(wholeRows(handed), before, same) || !slices.Equal(places[:cap(places)], placesBefore) {
				t.Fatalf("%v, %d wide: what is handed in is changed", rows, w)
			}
			again, _ := reflow.Rows(handed, w)
			checkRows(t, "once more", again, want)
		}
	}
}

// P11.1, P0.3: rows that have the width already are told as rows of their own.
func TestToldAtItsOwnWidth(t *testing.T) {
	for _, rows := range someRows() {
		for _, w := range []int{2, 3, 300} {
			laid, _ := modelRows(rows, w)
			before := ownRows(laid)
			got, _ := reflow.Rows(laid, w)
			checkRows(t, "the same rows", got, before)
			spoilRows(got)
			checkRows(t, "what was handed in", laid, before)
		}
	}
}
