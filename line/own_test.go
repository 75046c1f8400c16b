package line_test

import (
	"math/rand"
	"slices"
	"testing"

	"rotulus/api"
	"rotulus/line"
)

// spoilLine writes into a line, its spare room too.
func spoilLine(l []api.Cell) {
	l = l[:cap(l)]
	for i := range l {
		l[i] = of('!', 1, 99)
	}
}

// spoilLines writes into lines, the spare room of each and of their list too.
func spoilLines(ls [][]api.Cell) {
	ls = ls[:cap(ls)]
	for i, l := range ls {
		spoilLine(l)
		ls[i] = letters(3)
	}
}

// spoilRows writes into rows, the spare room of each and of their list too.
func spoilRows(rows []api.Row) {
	rows = rows[:cap(rows)]
	for i, r := range rows {
		spoilLine(r.Cells)
		rows[i] = api.Row{Cells: letters(3), Wrap: !r.Wrap}
	}
}

// roomyLine is l with spare room behind it.
func roomyLine(l []api.Cell) []api.Cell {
	return append(slices.Clone(l), letters(5)...)[:len(l)]
}

// roomyRows are rows with spare room behind each and behind all.
func roomyRows(rows []api.Row) []api.Row {
	out := append(slices.Clone(rows), readAll("spare|/room")...)
	for i, r := range out {
		out[i].Cells = roomyLine(r.Cells)
	}
	return out[:len(rows)]
}

// roomyLines are likewise of lines.
func roomyLines(ls [][]api.Cell) [][]api.Cell {
	out := append(slices.Clone(ls), readLines("spare/room")...)
	for i, l := range out {
		out[i] = roomyLine(l)
	}
	return out[:len(ls)]
}

// wholeRows are copies of rows with all their spare room.
func wholeRows(rows []api.Row) []api.Row {
	out := slices.Clone(rows[:cap(rows)])
	for i, r := range out {
		out[i].Cells = slices.Clone(r.Cells[:cap(r.Cells)])
	}
	return out
}

// wholeLines are likewise of lines.
func wholeLines(ls [][]api.Cell) [][]api.Cell {
	out := slices.Clone(ls[:cap(ls)])
	for i, l := range out {
		out[i] = slices.Clone(l[:cap(l)])
	}
	return out
}

// someRows are rows of all kinds, each list with what it is good for.
func someRows() [][]api.Row {
	die := rand.New(rand.NewSource(31))
	out := [][]api.Row{readAll("a"), readAll("abc"), readAll("abc|/中d|"), readAll("a.|/..|/.."), readAll("a/b/c"), readAll("ab_|/中c/>|/x.."), readAll("/|/"), readAll("...")}
	for range 100 {
		out = append(out, thrownRows(die, 8, 8))
	}
	return out
}

// P10.1, P10.2, P0.3: rows that are handed in stay, spare room too, and who writes into them afterwards turns nothing that was told.
func TestRowsHandedIn(t *testing.T) {
	for _, rows := range someRows() {
		want := modelJoin(rows)
		handed := roomyRows(rows)
		before := wholeRows(handed)
		ls, each := line.Join(handed), line.Each(handed)
		checkEach(t, "each", each, want)
		for i := range rows {
			for col := range 9 {
				line.Spot(handed, at(i, col))
			}
		}
		if !slices.EqualFunc(wholeRows(handed), before, same) {
			t.Fatalf("%v: what is handed in is changed", rows)
		}
		spoilRows(handed)
		checkLines(t, "Join, its rows spoiled", ls, want)
		checkEach(t, "Each, its rows spoiled", each, want)
	}
}

// P10.1, P0.3: rows are written into between Each and its loop, and in the loop.
func TestRowsSpoiledInTheLoop(t *testing.T) {
	for _, rows := range someRows() {
		want := modelJoin(rows)
		first := roomyRows(rows)
		each := line.Each(first)
		spoilRows(first)
		checkEach(t, "ahead of the loop", each, want)
		handed := roomyRows(rows)
		var got [][]api.Cell
		for _, l := range line.Each(handed) {
			spoilRows(handed)
			got = append(got, l)
		}
		checkLines(t, "in the loop", got, want)
	}
}

// P10.1, P0.3: who writes into what was told, spare room too, turns neither another answer nor the rest of the same one.
func TestLinesToldAreOwn(t *testing.T) {
	for _, rows := range someRows() {
		want, before := modelJoin(rows), ownRows(rows)
		one, other, each := line.Join(rows), line.Join(rows), line.Each(rows)
		for i := range one {
			spoilLine(one[i])
			checkLines(t, "the other lines", one[i+1:], want[i+1:])
		}
		spoilLines(one)
		checkLines(t, "another answer", other, want)
		var told [][]api.Cell
		for number, l := range each {
			if number%2 == 0 {
				spoilLine(l)
				_ = append(l[:0], letters(9)...)
				continue
			}
			told = append(told, l)
		}
		for i, l := range told {
			checkLines(t, "the lines that stay", list(l), list(want[2*i+1]))
		}
		checkEach(t, "gone through once more", each, want)
		if !slices.EqualFunc(rows, before, same) {
			t.Fatal("what is handed in is changed")
		}
	}
}

// P10.1, P10.2, P0.3: lines that are handed in stay, spare room too, and who writes into them afterwards turns nothing that was told.
func TestLinesHandedIn(t *testing.T) {
	die := rand.New(rand.NewSource(32))
	for range 200 {
		ls := thrownLines(die, 5, 12)
		w := 2 + die.Intn(8)
		handed := roomyLines(ls)
		before := wholeLines(handed)
		all := line.All(handed, w)
		var each [][]api.Row
		for i, l := range handed {
			each = append(each, line.Layout(l, w))
			for off := range len(l) + 1 {
				line.Place(handed, w, spot(i, off, off%2))
			}
		}
		if !slices.EqualFunc(wholeLines(handed), before, sameLine) {
			t.Fatalf("%v: what is handed in is changed", ls)
		}
		spoilLines(handed)
		checkRows(t, "All, its lines spoiled", all, modelAll(ls, w))
		for i, l := range ls {
			checkRows(t, "Layout, its line spoiled", each[i], modelLayout(l, w))
		}
	}
}

// P10.1, P0.3: who writes into rows that were told, spare room too, turns neither another answer nor the other rows of the same one.
func TestRowsToldAreOwn(t *testing.T) {
	die := rand.New(rand.NewSource(33))
	for range 200 {
		ls := thrownLines(die, 5, 12)
		w := 2 + die.Intn(8)
		want := modelAll(ls, w)
		one, other := line.All(ls, w), line.All(ls, w)
		for i := range one {
			spoilLine(one[i].Cells)
			checkRows(t, "the other rows", one[i+1:], want[i+1:])
		}
		spoilRows(one)
		checkRows(t, "another answer", other, want)
		for _, l := range ls {
			before := slices.Clone(l)
			rows, again := line.Layout(l, w), line.Layout(l, w)
			for i := range rows {
				spoilLine(rows[i].Cells)
				checkRows(t, "the other rows", rows[i+1:], again[i+1:])
			}
			spoilRows(rows)
			checkRows(t, "another answer", again, modelLayout(l, w))
			if !slices.Equal(l, before) {
				t.Fatal("what is handed in is changed")
			}
		}
		checkRows(t, "once more", line.All(ls, w), want)
	}
}
