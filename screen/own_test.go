package screen_test

import (
	"math"
	"math/rand"
	"slices"
	"testing"

	"rotulus/api"
	"rotulus/screen"
)

// spoil writes into rows, the spare room of their cells and of their list too.
func spoil(rows []api.Row) {
	rows = rows[:cap(rows)]
	for i := range rows {
		spoilRow(&rows[i])
	}
}

// spoilRow writes into a row and the spare room of its cells.
func spoilRow(r *api.Row) {
	l := r.Cells[:cap(r.Cells)]
	for i := range l {
		l[i] = of('!', 1, 99)
	}
	r.Wrap = !r.Wrap
}

// roomy are rows with spare room behind each and behind all.
func roomy(texts string) []api.Row {
	rows := readAll(texts + "/spare|/room")
	for i, r := range rows {
		rows[i].Cells = append(slices.Clone(r.Cells), letters(5)...)[:len(r.Cells)]
	}
	return rows[:len(rows)-2]
}

// whole are copies of rows with all their spare room.
func whole(rows []api.Row) []api.Row {
	out := slices.Clone(rows[:cap(rows)])
	for i, r := range out {
		out[i].Cells = slices.Clone(r.Cells[:cap(r.Cells)])
	}
	return out
}

// P9.1, P0.3: rows that were handed in stay as they were, spare room too, whatever the screen is told; who writes into them does not turn the screen.
func TestRowsHandedInStay(t *testing.T) {
	die := rand.New(rand.NewSource(14))
	for _, texts := range []string{"abc|/中d", "a/|/中国", "abcdef/ab中/_", "..", "abc"} {
		for w := 2; w <= 6; w++ {
			for h := 1; h <= 4; h++ {
				rows := roomy(texts)
				before := whole(rows)
				s, m := screen.Of(rows, w, h, at(0, 1), 3), modelOf(rows, w, h, at(0, 1), 3)
				for range 40 {
					checkDo(t, texts, s, m, thrown(die))
				}
				if !slices.EqualFunc(whole(rows), before, same) {
					t.Fatalf("%s: what was handed in is changed", texts)
				}
				s, m = screen.Of(rows, w, h, at(0, 1), 3), modelOf(rows, w, h, at(0, 1), 3)
				spoil(rows)
				for range 40 {
					checkModel(t, texts+", spoiled", s, m)
					checkDo(t, texts+", spoiled", s, m, thrown(die))
				}
			}
		}
	}
}

// P9.2, P0.3: an event's numbers stay as they were, spare room too; who writes into them does not turn the screen.
func TestArgsStay(t *testing.T) {
	for _, last := range "ABCDHJKmz" {
		for _, args := range numbersOfCsi() {
			room := append(slices.Clone(args), 2, 7, 1)
			before := slices.Clone(room)
			s, m := screen.Of(readAll("abc|/中d|"), 3, 2, at(0, 1), 3), modelOf(readAll("abc|/中d|"), 3, 2, at(0, 1), 3)
			checkDo(t, "numbers", s, m, csi(last, room[:len(args)]...))
			if !slices.Equal(room, before) {
				t.Errorf("%c of %v changes them to %v", last, before, room)
			}
			for i := range room {
				room[i] = 77
			}
			checkModel(t, "numbers, spoiled", s, m)
			checkDo(t, "numbers, spoiled", s, m, prints('x'))
		}
	}
}

// P9.2, P0.3: what is told is the caller's own: who writes into it, spare room too, turns neither the screen nor another answer, and what the screen is told later does not turn it.
func TestToldIsOwn(t *testing.T) {
	die := rand.New(rand.NewSource(15))
	for range 100 {
		w, h := 2+die.Intn(5), 1+die.Intn(4)
		s, m := screen.New(w, h), modelNew(w, h)
		var told, before [][]api.Row
		for range 60 {
			e := thrown(die)
			gone, seen := s.Do(e), s.Rows()
			m.do(e)
			for _, answer := range [][]api.Row{gone, seen} {
				if die.Intn(2) == 0 {
					spoil(answer)
					_ = append(answer, api.Row{Cells: letters(w)})
					continue
				}
				told, before = append(told, answer), append(before, own(answer))
			}
			checkModel(t, "behind what was spoiled", s, m)
		}
		for i := range told {
			checkRows(t, "what was told", told[i], before[i], w)
		}
	}
}

// P9.1, P0.3: the rows of one answer share nothing, spare room neither.
func TestRowsShareNothing(t *testing.T) {
	die := rand.New(rand.NewSource(16))
	for range 100 {
		w, h := 2+die.Intn(5), 2+die.Intn(4)
		s := screen.New(w, h)
		for range die.Intn(30) {
			s.Do(thrown(die))
		}
		rows, again := s.Rows(), s.Rows()
		for i := range rows {
			before := own(rows)
			spoilRow(&rows[i])
			rows[i].Cells = append(rows[i].Cells[:0], before[i].Cells...)
			rows[i].Wrap = before[i].Wrap
			checkRows(t, "the other rows", rows, before, w)
			checkRows(t, "another answer", again, before, w)
		}
	}
}

// P9.1, P0.3: two screens of the same rows go on without one another.
func TestTwoScreens(t *testing.T) {
	die := rand.New(rand.NewSource(17))
	rows := readAll("abc|/中d|/...")
	a, b := screen.Of(rows, 3, 3, at(0, 0), 1), screen.Of(rows, 3, 3, at(2, 3), 2)
	ma, mb := modelOf(rows, 3, 3, at(0, 0), 1), modelOf(rows, 3, 3, at(2, 3), 2)
	for range 500 {
		checkDo(t, "the one", a, ma, thrown(die))
		checkModel(t, "the other", b, mb)
		checkDo(t, "the other", b, mb, thrown(die))
		checkModel(t, "the one", a, ma)
	}
}

// P9.1: to ask turns nothing.
func TestAskedOften(t *testing.T) {
	s := screen.Of(readAll("abc|/中d|"), 3, 2, at(1, 3), 9)
	for range 10 {
		check(t, "asked", s, readAll("abc|/中d|"), at(1, 3), 9, 3, 2)
	}
}

// someOfAll are events of all kinds.
func someOfAll() []api.Event {
	all := append(csis(), prints('x'), prints('中'), prints(0), prints(-1), ctrl(8), ctrl(9), ctrl(10), ctrl(13), ctrl(math.MinInt32))
	return append(all, api.Event{}, api.Event{Kind: -1}, api.Event{Kind: 9, R: 'x'}, api.Event{Kind: api.EOsc, Text: "x"})
}

// P9.2: a nil *Screen tells nothing and takes nothing; one that nobody made has no rows either, and nothing panics.
func TestNil(t *testing.T) {
	for name, s := range map[string]*screen.Screen{"nil": nil, "of its own": {}} {
		for _, e := range append(someOfAll(), someOfAll()...) {
			if gone := s.Do(e); len(gone) != 0 {
				t.Fatalf("%s: %v: %v goes out", name, e, gone)
			}
			check(t, name, s, nil, at(0, 0), 0, 0, 0)
		}
	}
	var none *screen.Screen
	if none.Rows() != nil || none.Do(prints('x')) != nil {
		t.Error("a nil screen tells a list that is not nil")
	}
}

// P0.4: nil lists are as empty ones.
func TestNilLists(t *testing.T) {
	for _, rows := range [][]api.Row{nil, {}, make([]api.Row, 0, 5), {{}}, {{Cells: []api.Cell{}}}, {{Cells: make([]api.Cell, 0, 5)}}} {
		check(t, "no rows", screen.Of(rows, 3, 2, at(1, 1), 4), readAll(".../..."), at(1, 1), 4, 3, 2)
	}
	for _, r := range []api.Row{{Wrap: true}, {Cells: []api.Cell{}, Wrap: true}} {
		check(t, "no cells", screen.Of([]api.Row{r}, 3, 2, at(1, 1), 4), readAll("...|/..."), at(1, 1), 4, 3, 2)
	}
	for _, last := range "ABCDHJKmz" {
		for _, from := range []api.Pos{at(0, 0), at(1, 1), at(1, 3)} {
			a, b := screen.Of(readAll("abc|/中d|"), 3, 2, from, 4), screen.Of(readAll("abc|/中d|"), 3, 2, from, 4)
			a.Do(api.Event{Kind: api.ECsi, R: last})
			b.Do(api.Event{Kind: api.ECsi, R: last, Args: []int{}})
			check(t, "no numbers", a, b.Rows(), b.Cursor(), b.Attr(), 3, 2)
		}
	}
}
