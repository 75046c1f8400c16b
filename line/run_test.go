package line_test

import (
	"math"
	"math/rand"
	"slices"
	"testing"

	"rotulus/api"
	"rotulus/cell"
	"rotulus/line"
)

// shortRows are all rows of up to so many pieces, each with Wrap and without, and some that may not be.
func shortRows(most int, pieces ...string) []api.Row {
	out := list(read(">"), read("a>|"))
	var longer func(s string, left int)
	longer = func(s string, left int) {
		out = append(out, read(s), read(s+"|"))
		if left == 0 {
			return
		}
		for _, x := range pieces {
			longer(s+x, left-1)
		}
	}
	longer("", most)
	return out
}

// shortLines are all lines of up to so many pieces.
func shortLines(most int, pieces ...string) [][]api.Cell {
	var out [][]api.Cell
	for _, r := range shortRows(most, pieces...) {
		l := slices.DeleteFunc(slices.Clone(r.Cells), func(c api.Cell) bool { return c.W == 0 })
		if !r.Wrap && !slices.Equal(r.Cells, read(">").Cells) {
			out = append(out, l)
		}
	}
	return out
}

// checkSpots holds Spot against the model at each place of rows, and at those beside them.
func checkSpots(t *testing.T, name string, rows []api.Row) {
	t.Helper()
	for row := -1; row <= len(rows); row++ {
		many := 0
		if 0 <= row && row < len(rows) {
			many = len(rows[row].Cells)
		}
		for col := -1; col <= many+1; col++ {
			checkSpot(t, name, rows, at(row, col), modelSpot(rows, at(row, col)))
		}
	}
}

// checkPlaces holds Place against the model, w wide, of each Off of each of ls and those beside them.
func checkPlaces(t *testing.T, name string, ls [][]api.Cell, w int) {
	t.Helper()
	for number := -1; number <= len(ls); number++ {
		many := 0
		if 0 <= number && number < len(ls) {
			many = len(ls[number])
		}
		for off := -1; off <= many+1; off++ {
			for _, past := range []int{-1, 0, 1, 2, w - 1, w, math.MaxInt} {
				checkPlace(t, name, ls, w, spot(number, off, past), modelPlace(ls, w, spot(number, off, past)))
			}
		}
	}
}

// P10.1, P10.2: Join, Each and Spot of all short rows, alone, in twos and in threes.
func TestAllShortRows(t *testing.T) {
	for _, a := range shortRows(3, "a", ".", "~", "_", "中") {
		checkJoin(t, "one row", list(a), modelJoin(list(a)))
		checkSpots(t, "one row", list(a))
	}
	some := shortRows(2, "a", ".", "_", "中")
	for _, a := range some {
		for _, b := range some {
			checkJoin(t, "two rows", list(a, b), modelJoin(list(a, b)))
			checkSpots(t, "two rows", list(a, b))
		}
	}
	few := shortRows(1, "a", ".", "_", "中")
	for _, a := range few {
		for _, b := range few {
			for _, c := range few {
				for _, d := range few {
					rows := list(a, b, c, d)
					checkJoin(t, "four rows", rows, modelJoin(rows))
					checkSpots(t, "four rows", rows)
				}
			}
		}
	}
}

// P10.1: Layout of all short lines, at all narrow widths.
func TestAllShortLines(t *testing.T) {
	for _, l := range shortLines(6, "a", ".", "~", "界") {
		for w := 1; w <= 13; w++ {
			checkRows(t, "a short line", line.Layout(l, w), modelLayout(l, w))
		}
	}
}

// P10.2: Place of each spot of all short lines, alone and in twos, at all narrow widths.
func TestAllShortPlaces(t *testing.T) {
	for _, l := range shortLines(4, "a", ".", "中") {
		for w := 1; w <= 6; w++ {
			checkPlaces(t, "one line", list(l), w)
		}
	}
	some := shortLines(3, "a", "中")
	for _, a := range some {
		for _, b := range some {
			for w := 2; w <= 4; w++ {
				checkPlaces(t, "two lines", list(a, b), w)
			}
		}
	}
}

// checkRoundTrip holds that lines, laid out, are the same lines again but for Blanks at their ends, and that of each cell Place is one place after the other, of which Spot comes back.
func checkRoundTrip(t *testing.T, ls [][]api.Cell, w int) {
	t.Helper()
	rows := line.All(ls, w)
	var want [][]api.Cell
	for _, l := range ls {
		want = append(want, modelCut(l))
	}
	checkJoin(t, "joined again", rows, want)
	ahead := at(-1, 0)
	for number, l := range want {
		for off := range len(l) + 1 {
			s := spot(number, off, 0)
			p := line.Place(ls, w, s)
			if p.Row < ahead.Row || p.Row == ahead.Row && p.Col <= ahead.Col {
				t.Fatalf("%d wide: %v stands at %v, behind %v", w, s, p, ahead)
			}
			if off < len(l) && rows[p.Row].Cells[p.Col] != l[off] {
				t.Fatalf("%d wide: at %v stands %v, not %v", w, p, rows[p.Row].Cells[p.Col], l[off])
			}
			if got := line.Spot(rows, p); got != s {
				t.Fatalf("%d wide: %v stands at %v, whose Spot is %v", w, s, p, got)
			}
			ahead = p
		}
	}
}

// P10.1, P10.2: lines, laid out, are the same lines again; each cell has its place, in order, and the way back from there.
func TestRoundTrip(t *testing.T) {
	for _, l := range shortLines(6, "a", ".", "中") {
		for w := 2; w <= 7; w++ {
			checkRoundTrip(t, list(l), w)
		}
	}
	die := rand.New(rand.NewSource(21))
	for range 300 {
		checkRoundTrip(t, thrownLines(die, 6, 40), 2+die.Intn(20))
	}
	for _, w := range []int{2, 3, 80, 299, 300} {
		checkRoundTrip(t, thrownLines(die, 4, 700), w)
	}
}

// P10.2: from Blanks behind a line's end one comes back to the same place, where the row has room.
func TestRoundTripPast(t *testing.T) {
	for _, l := range shortLines(4, "a", ".", "中") {
		for w := 2; w <= 7; w++ {
			ls := list(letters(3), modelCut(l), letters(1))
			rows := line.All(ls, w)
			last := len(line.All(ls[:2], w)) - 1
			for col := range w {
				p := at(last, col)
				if s := line.Spot(rows, p); s.Past > 0 && line.Place(ls, w, s) != p {
					t.Fatalf("%d wide: from %v to %v and to %v", w, p, s, line.Place(ls, w, s))
				}
			}
		}
	}
}

// P10.2: a Col below 0 is as 0, one beyond the last cell as the one behind it, in any row.
func TestSpotOfFarCols(t *testing.T) {
	die := rand.New(rand.NewSource(22))
	for range 300 {
		rows := thrownRows(die, 8, 12)
		for i, r := range rows {
			first, last := line.Spot(rows, at(i, 0)), line.Spot(rows, at(i, len(r.Cells)))
			for _, far := range []int{1, 2, 300, 1 << 32, math.MaxInt - 1000} {
				checkSpot(t, "far below", rows, at(i, -far), first)
				checkSpot(t, "far beyond", rows, at(i, len(r.Cells)+far), last)
			}
			checkSpot(t, "farthest below", rows, at(i, math.MinInt), first)
			checkSpot(t, "farthest beyond", rows, at(i, math.MaxInt), last)
		}
	}
}

// thrownPiece is a part of a row, thrown by a die: mostly a sign, a Blank or several, a Pad; now and then what may not be.
func thrownPiece(die *rand.Rand) []api.Cell {
	signs := []rune{'a', 'b', 'x', 'é', ' ', 0xFFFD, 0x10FFFF, 0x4E2D, 0x56FD, 0x1F600, 0x3000}
	switch die.Intn(12) {
	case 0, 1:
		return gaps(1)
	case 2:
		return gaps(1 + die.Intn(6))
	case 3:
		return list(of(0, 1, 0))
	case 4:
		return cell.Of(signs[die.Intn(len(signs))], die.Intn(256))
	case 5:
		if die.Intn(20) == 0 {
			return list(of(0, die.Intn(3), die.Intn(2)))
		}
	}
	return cell.Of(signs[die.Intn(len(signs))], 0)
}

// thrownRows are up to so many rows of up to so many pieces, thrown by a die; most go on.
func thrownRows(die *rand.Rand, many, long int) []api.Row {
	var out []api.Row
	for range die.Intn(many + 1) {
		r := api.Row{Wrap: die.Intn(3) > 0}
		for range die.Intn(long + 1) {
			r.Cells = append(r.Cells, thrownPiece(die)...)
		}
		out = append(out, r)
	}
	return out
}

// thrownLines are up to so many lines of up to so many cells, thrown by a die.
func thrownLines(die *rand.Rand, many, long int) [][]api.Cell {
	var out [][]api.Cell
	for range die.Intn(many + 1) {
		var l []api.Cell
		for range die.Intn(long + 1) {
			l = append(l, modelSigns(thrownPiece(die))...)
		}
		out = append(out, l)
	}
	return out
}

// P10.1, P10.2: long lists of rows, thrown by a die, joined, laid out at a thrown width, and asked at thrown places.
func TestThrown(t *testing.T) {
	die := rand.New(rand.NewSource(23))
	for range 200 {
		rows := thrownRows(die, 40, 30)
		ls := modelJoin(rows)
		checkJoin(t, "thrown", rows, ls)
		w := 2 + die.Intn(40)
		if die.Intn(10) == 0 {
			w = 1 + die.Intn(301)
		}
		checkRows(t, "thrown", line.All(ls, w), modelAll(ls, w))
		for range 60 {
			p := at(die.Intn(44)-2, die.Intn(50)-3)
			s := spot(die.Intn(len(ls)+2)-1, die.Intn(60)-2, max(die.Intn(60)-30, -1))
			checkSpot(t, "thrown", rows, p, modelSpot(rows, p))
			checkPlace(t, "thrown", ls, w, s, modelPlace(ls, w, s))
			s = modelSpot(rows, p)
			checkPlace(t, "thrown", ls, w, s, modelPlace(ls, w, s))
		}
	}
}

// P10.1, P10.2: rows of up to 300 cells and more, thrown by a die.
func TestThrownLongRows(t *testing.T) {
	die := rand.New(rand.NewSource(24))
	for range 40 {
		rows := thrownRows(die, 20, 280)
		ls := modelJoin(rows)
		checkJoin(t, "thrown", rows, ls)
		for _, w := range []int{2, 79, 299, 300} {
			checkRows(t, "thrown", line.All(ls, w), modelAll(ls, w))
			for range 10 {
				p := at(die.Intn(20), die.Intn(400))
				checkSpot(t, "thrown", rows, p, modelSpot(rows, p))
				checkPlace(t, "thrown", ls, w, modelSpot(rows, p), modelPlace(ls, w, modelSpot(rows, p)))
			}
		}
	}
}

// P10.1: lists of cells, thrown by a die, some of which are no line.
func TestThrownLines(t *testing.T) {
	die := rand.New(rand.NewSource(25))
	for range 500 {
		ls := thrownLines(die, 5, 20)
		if len(ls) > 0 && die.Intn(3) == 0 {
			k := die.Intn(len(ls))
			ls[k] = append(ls[k], thrownPiece(die)...)
		}
		w := 1 + die.Intn(12)
		checkRows(t, "thrown", line.All(ls, w), modelAll(ls, w))
		for _, l := range ls {
			checkRows(t, "thrown", line.Layout(l, w), modelLayout(l, w))
		}
		checkPlaces(t, "thrown", ls, w)
	}
}

// P0.1: as many rows and lines as a long history has.
func TestManyRows(t *testing.T) {
	const many = 200000
	rows := slices.Repeat(list(read("ab|"), read("c.")), many/2)
	ls := line.Join(rows)
	if len(ls) != many/2 {
		t.Fatalf("%d lines", len(ls))
	}
	checkRows(t, "many rows", line.All(ls, 2), rows)
	if got := line.Spot(rows, at(many-1, 2)); got != spot(many/2-1, 3, 1) {
		t.Fatalf("Spot of the last place is %v", got)
	}
	if got := line.Place(ls, 2, spot(many/2-1, 3, 0)); got != at(many-1, 1) {
		t.Fatalf("Place of the last spot is %v", got)
	}
	one := line.Join(slices.Repeat(list(read("ab|")), many))
	if len(one) != 1 || len(one[0]) != 2*many {
		t.Fatalf("%d lines", len(one))
	}
	if got := line.Place(one, 300, spot(0, 2*many, 0)); got != at((2*many-1)/300, (2*many-1)%300+1) {
		t.Fatalf("Place of the end is %v", got)
	}
}
