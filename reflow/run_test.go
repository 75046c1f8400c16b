package reflow_test

import (
	"math/rand"
	"slices"
	"testing"

	"rotulus/api"
	"rotulus/reflow"
)

// pieces are what rows are thrown of; the last ones make a row one that may not be.
func pieces() []string {
	return []string{"a", "b", "c", "X", ".", "...", "~", "中", "国", "界", "_", "a", ".", "中", "<", ">"}
}

// thrownRow is a row of up to so many pieces, thrown by a die; seldom one that may not be.
func thrownRow(die *rand.Rand, most int) api.Row {
	all := pieces()
	if die.Intn(12) > 0 {
		all = all[:len(all)-2]
	}
	s := ""
	for range die.Intn(most + 1) {
		s += all[die.Intn(len(all))]
	}
	if die.Intn(4) == 0 {
		s += "...."
	}
	r := read(s)
	r.Wrap = die.Intn(2) == 0
	return r
}

// thrownRows are up to so many rows, thrown by a die.
func thrownRows(die *rand.Rand, most, long int) []api.Row {
	var out []api.Row
	for range die.Intn(most + 1) {
		out = append(out, thrownRow(die, long))
	}
	return out
}

// thrownMarks are n places, thrown by a die, some of which are none of rows.
func thrownMarks(die *rand.Rand, rows []api.Row, n int) []api.Pos {
	var out []api.Pos
	for range n {
		p := at(die.Intn(len(rows)+3)-1, die.Intn(12)-1)
		if 0 <= p.Row && p.Row < len(rows) && die.Intn(2) == 0 {
			p.Col = die.Intn(len(rows[p.Row].Cells) + 2)
		}
		out = append(out, p)
	}
	return out
}

// checkModel holds Rows and Same against the model.
func checkModel(t *testing.T, name string, rows []api.Row, w int, marks []api.Pos) {
	t.Helper()
	want, moved := modelRows(rows, w, marks...)
	checkReflow(t, name, rows, w, marks, want, moved)
	if 2 <= w && w <= 300 {
		checkSame(t, name, rows, want, true)
	}
}

// shortRows are all rows of up to so many pieces, each with Wrap and without, and one that may not be.
func shortRows(most int, all ...string) []api.Row {
	out := list(read(">|"))
	var longer func(s string, left int)
	longer = func(s string, left int) {
		out = append(out, read(s), read(s+"|"))
		if left == 0 {
			return
		}
		for _, x := range all {
			longer(s+x, left-1)
		}
	}
	longer("", most)
	return out
}

// P11.1, R2: all short rows, alone, in twos and in threes, at all narrow widths, with a mark at each place.
func TestAllShortRows(t *testing.T) {
	for _, a := range shortRows(4, "a", ".", "~", "_", "中") {
		for w := 2; w <= 5; w++ {
			checkModel(t, "one row", list(a), w, marksOf(list(a)))
			checkKept(t, "one row", list(a), w)
		}
	}
	some := shortRows(2, "a", ".", "_", "中")
	for _, a := range some {
		for _, b := range some {
			for w := 2; w <= 4; w++ {
				checkModel(t, "two rows", list(a, b), w, marksOf(list(a, b)))
				checkKept(t, "two rows", list(a, b), w)
			}
		}
	}
	few := shortRows(1, "a", ".", "_", "中")
	for _, a := range few {
		for _, b := range few {
			for _, c := range few {
				checkModel(t, "three rows", list(a, b, c), 2, marksOf(list(a, b, c)))
				checkModel(t, "three rows", list(a, b, c), 3, marksOf(list(a, b, c)))
			}
		}
	}
}

// P11.1: Same of all lists of two short rows.
func TestSameOfShortRows(t *testing.T) {
	some := shortRows(1, "a", ".", "~", "_", "中")
	var lists [][]api.Row
	for _, a := range some {
		lists = append(lists, list(a))
		for _, b := range some {
			lists = append(lists, list(a, b))
		}
	}
	for _, a := range lists {
		for _, b := range lists {
			if reflow.Same(a, b) != modelSame(a, b) {
				t.Fatalf("Same of %v and %v is not %v", a, b, modelSame(a, b))
			}
		}
	}
}

// checkKept holds R2: behind Rows the lines are as ahead of it, each mark at a cell of a line stands at that cell, and laid out once more with one width the rows stay.
func checkKept(t *testing.T, name string, rows []api.Row, w int) []api.Row {
	t.Helper()
	next, moved := reflow.Rows(rows, w, cellsOf(rows)...)
	ls := modelJoin(rows)
	if got := modelJoin(next); !slices.EqualFunc(got, ls, slices.Equal) {
		t.Fatalf("%s, %d wide: the lines %v, then %v", name, w, ls, got)
	}
	if !reflow.Same(rows, next) || !reflow.Same(next, rows) {
		t.Fatalf("%s, %d wide: not the same lines", name, w)
	}
	for i, p := range cellsOf(rows) {
		number, off := modelSpot(rows, p)
		if off >= len(ls[number]) {
			continue // behind the line's end, or a Pad
		}
		if n, o := modelSpot(next, moved[i]); n != number || o != off {
			t.Fatalf("%s, %d wide: the mark %v goes from cell %d of line %d to %d of %d", name, w, p, off, number, o, n)
		}
		if c := next[moved[i].Row].Cells[moved[i].Col]; c != ls[number][off] {
			t.Fatalf("%s, %d wide: the mark %v goes to the cell %v, not %v", name, w, p, c, ls[number][off])
		}
	}
	again, places := reflow.Rows(next, w, moved...)
	checkRows(t, name+", once more", again, next)
	for i, p := range cellsOf(rows) {
		if number, off := modelSpot(rows, p); off < len(ls[number]) && places[i] != moved[i] {
			t.Fatalf("%s, %d wide: the mark %v at %v, then at %v", name, w, p, moved[i], places[i])
		}
	}
	return next
}

// cellsOf are the places of all cells of rows that may be.
func cellsOf(rows []api.Row) []api.Pos {
	var out []api.Pos
	for i, r := range rows {
		for col := range modelRow(r).Cells {
			out = append(out, at(i, col))
		}
	}
	return out
}

// R2: the lines of what is told are the lines ahead of it, at any width.
func TestNothingIsLost(t *testing.T) {
	die := rand.New(rand.NewSource(11))
	for range 60 {
		rows := thrownRows(die, 6, 8)
		for w := 2; w <= 20; w++ {
			checkKept(t, "thrown", rows, w)
		}
		for _, w := range []int{79, 80, 299, 300} {
			checkKept(t, "thrown", rows, w)
		}
	}
	rows := thrownRows(die, 5, 40)
	for w := 2; w <= 300; w++ {
		checkKept(t, "at every width", rows, w)
	}
}

// R2: there and back again, over several widths, the lines stay, and each width has its rows; a mark at a cell goes with it.
func TestThereAndBack(t *testing.T) {
	die := rand.New(rand.NewSource(12))
	for range 60 {
		rows := thrownRows(die, 8, 12)
		ls := modelJoin(rows)
		first, marks := reflow.Rows(rows, 2+die.Intn(12), cellsOf(rows)...)
		now, places := first, marks
		for range 8 {
			w := 2 + die.Intn(20)
			if die.Intn(8) == 0 {
				w = 297 + die.Intn(4)
			}
			straight, _ := reflow.Rows(rows, w)
			now, places = reflow.Rows(now, w, places...)
			checkRows(t, "over several widths", now, straight)
		}
		if !slices.EqualFunc(modelJoin(now), ls, slices.Equal) {
			t.Fatalf("the lines %v, then %v", ls, modelJoin(now))
		}
		if len(first) == 0 {
			continue
		}
		back, places := reflow.Rows(now, len(first[0].Cells), places...)
		checkRows(t, "back again", back, first)
		for i, p := range cellsOf(rows) {
			if number, off := modelSpot(rows, p); off < len(ls[number]) && places[i] != marks[i] {
				t.Fatalf("the mark %v at %v, and back again at %v", p, marks[i], places[i])
			}
		}
	}
}

// P11.1: long lists of rows, thrown by a die, at thrown widths, with thrown marks.
func TestThrown(t *testing.T) {
	die := rand.New(rand.NewSource(13))
	for range 500 {
		rows := thrownRows(die, 30, 20)
		w := 1 + die.Intn(40)
		if die.Intn(10) == 0 {
			w = 1 + die.Intn(301)
		}
		checkModel(t, "thrown", rows, w, thrownMarks(die, rows, die.Intn(12)))
	}
	for range 20 {
		rows := thrownRows(die, 300, 60)
		for _, w := range []int{2, 79, 299, 300} {
			checkModel(t, "long lists", rows, w, thrownMarks(die, rows, 6))
		}
	}
}

// P11.1: rows of up to 300 cells and more, thrown by a die.
func TestThrownLongRows(t *testing.T) {
	die := rand.New(rand.NewSource(14))
	for range 40 {
		rows := thrownRows(die, 15, 280)
		for _, w := range []int{2, 3, 80, 299, 300} {
			marks := thrownMarks(die, rows, 8)
			for i := range marks {
				marks[i].Col = die.Intn(400)
			}
			checkModel(t, "long rows", rows, w, marks)
		}
	}
}

// P11.1: Same of rows thrown by a die, and of such that are laid out otherwise and changed in one cell.
func TestThrownSame(t *testing.T) {
	die := rand.New(rand.NewSource(15))
	for range 1000 {
		rows := thrownRows(die, 10, 10)
		other, _ := modelRows(rows, 2+die.Intn(12))
		checkSame(t, "another width", rows, other, true)
		short := thrownRows(die, 2, 1)
		checkSame(t, "thrown", short, rows, modelSame(short, rows))
		if len(other) == 0 {
			continue
		}
		i := die.Intn(len(other))
		other[i].Cells[die.Intn(len(other[i].Cells))].A = die.Intn(256)
		checkSame(t, "one cell otherwise", rows, other, modelSame(rows, other))
		checkSame(t, "a row less", rows, other[1:], modelSame(rows, other[1:]))
		other[i].Wrap = !other[i].Wrap
		checkSame(t, "another Wrap", rows, other, modelSame(rows, other))
	}
}

// P0.1: as many rows as a long history has.
func TestManyRows(t *testing.T) {
	const many = 200000
	rows := slices.Repeat(list(read("ab|"), read("c.")), many/2)
	got, moved := reflow.Rows(rows, 3, at(0, 1), at(many-1, 0), at(many-1, 1), at(many-1, 2), at(many, 0))
	checkRows(t, "many rows", got, slices.Repeat(list(read("abc")), many/2))
	last := many/2 - 1
	if want := list(at(0, 1), at(last, 2), at(last, 3), at(last, 2), at(0, 0)); !slices.Equal(moved, want) {
		t.Fatalf("the marks at %v, not %v", moved, want)
	}
	back, _ := reflow.Rows(got, 2)
	checkRows(t, "and back", back, rows)
	if !reflow.Same(rows, got) || reflow.Same(rows, got[1:]) {
		t.Fatal("Same of many rows")
	}
	one, _ := reflow.Rows(slices.Repeat(list(read("ab|")), many), 300)
	if len(one) != (2*many+299)/300 {
		t.Fatalf("a long line: %d rows", len(one))
	}
}
