package screen_test

import (
	"math"
	"math/rand"
	"slices"
	"testing"

	"rotulus/api"
	"rotulus/esc"
	"rotulus/screen"
	"rotulus/utf"
)

// pieces are what rows are put together of.
func pieces() [][]api.Cell {
	var out [][]api.Cell
	for _, s := range []string{"a", ".", "~", "_", "中", "界"} {
		out = append(out, read(s).Cells)
	}
	return out
}

// eachRow hands on all rows of w cells that are put together of pieces, each with Wrap and without.
func eachRow(w int, use func(api.Row)) {
	var longer func(l []api.Cell)
	longer = func(l []api.Cell) {
		if len(l) == w {
			use(api.Row{Cells: l})
			use(api.Row{Cells: l, Wrap: true})
		}
		for _, x := range pieces() {
			if len(l)+len(x) <= w {
				longer(join(l, x))
			}
		}
	}
	longer(nil)
}

// eachScreen hands on the rows of screens w wide of one, two and three rows, one of which is any row of w cells.
func eachScreen(w int, use func(rows []api.Row)) {
	beside := read("中bcdefgh|")
	beside.Cells = beside.Cells[:w]
	eachRow(w, func(r api.Row) {
		use([]api.Row{r})
		use([]api.Row{r, beside})
		use([]api.Row{beside, r})
		use([]api.Row{beside, r, beside})
	})
}

// checkEverywhere holds each of the events against the model, from each place of each of eachScreen.
func checkEverywhere(t *testing.T, name string, w, attr int, events []api.Event) {
	t.Helper()
	eachScreen(w, func(rows []api.Row) {
		h := len(rows)
		for row := range h {
			for col := range w + 1 {
				for _, e := range events {
					s, m := screen.Of(rows, w, h, at(row, col), attr), modelOf(rows, w, h, at(row, col), attr)
					checkDo(t, name, s, m, e)
				}
			}
		}
	})
}

// P9.2: each sign at each place of all narrow screens: over halves, over Pads, at the right edge and behind it, at the last row.
func TestPrintEverywhere(t *testing.T) {
	signs := list(prints('x'), prints(' '), prints('国'), prints(0x1F600), prints(0x301), prints(-1), prints(0xD800), prints(0xFFFD), prints(0x10FFFF))
	for _, attr := range []int{0, 7, 255} {
		checkEverywhere(t, "print, 2 wide", 2, attr, signs)
		checkEverywhere(t, "print, 3 wide", 3, attr, signs)
	}
	checkEverywhere(t, "print, 4 wide", 4, 9, list(prints('x'), prints('国'), prints(0x301)))
}

// P9.2: each control sign at each place of all narrow screens.
func TestControlsEverywhere(t *testing.T) {
	signs := list(ctrl(8), ctrl(9), ctrl(10), ctrl(13), ctrl(0), ctrl(7), ctrl(11), ctrl(27), ctrl(127), ctrl('x'), ctrl(-1))
	checkEverywhere(t, "control, 2 wide", 2, 3, signs)
	checkEverywhere(t, "control, 3 wide", 3, 3, signs)
}

// numbersOfCsi are the numbers of CSIs: none, few, many, and of any size.
func numbersOfCsi() [][]int {
	return [][]int{
		nil, {0}, {1}, {2}, {3}, {4}, {9999}, {-1}, {-2}, {256}, {math.MaxInt}, {math.MinInt},
		{0, 0}, {1, 1}, {2, 0}, {0, 2}, {1, 2}, {2, 1}, {2, 3, 9}, {3, 2, 1, 0}, {4, 5}, {-1, 2}, {2, -1}, {math.MinInt, math.MaxInt}, {math.MaxInt, math.MinInt},
	}
}

// csis are CSIs of each last byte that is known and of some others, of all those numbers.
func csis() []api.Event {
	var out []api.Event
	for _, last := range "ABCDHJKmEFGILMPSTXfhlz@" {
		for _, args := range numbersOfCsi() {
			out = append(out, csi(last, args...))
		}
	}
	return out
}

// P9.2: each CSI from each place of all narrow screens.
func TestCsiEverywhere(t *testing.T) {
	checkEverywhere(t, "CSI, 2 wide", 2, 3, csis())
	known := slices.DeleteFunc(csis(), func(e api.Event) bool { return len(e.Args) > 1 && e.R != 'H' || e.R > 'K' && e.R != 'm' })
	checkEverywhere(t, "CSI, 3 wide", 3, 0, known)
}

// P9.2: J and K with any number from each place of all screens 4 wide, for the halves at both sides.
func TestEraseEverywhere(t *testing.T) {
	checkEverywhere(t, "erase, 4 wide", 4, 0, list(csi('K'), csi('K', 1), csi('K', 2), csi('K', 3), csi('J'), csi('J', 1), csi('J', 2)))
}

// P9.2: all short runs of some events on the smallest screens.
func TestAllShortRuns(t *testing.T) {
	some := list(prints('x'), prints('中'), ctrl(8), ctrl(9), ctrl(10), ctrl(13), csi('A'), csi('B'), csi('D'), csi('H', 1, 2), csi('J', 1), csi('K'), csi('K', 1), csi('m', 7))
	for _, size := range []api.Pos{at(1, 2), at(2, 2), at(1, 3), at(2, 3), at(2, 4)} {
		each := func(run []api.Event) {
			s, m := screen.New(size.Col, size.Row), modelNew(size.Col, size.Row)
			for _, e := range run {
				checkDo(t, tell(run), s, m, e)
			}
		}
		for _, a := range some {
			for _, b := range some {
				for _, c := range some {
					for _, d := range some {
						each(list(a, b, c, d))
					}
				}
			}
		}
	}
}

// thrown is an event, thrown by a die; most of them print.
func thrown(die *rand.Rand) api.Event {
	signs := []rune{'a', 'b', 'x', ' ', 'é', 0xFFFD, '中', '国', 0x1F600, 0xFF01, 0x3000, 0x301, 0x200B, -1, 0xD800}
	switch die.Intn(10) {
	default:
		return prints(signs[die.Intn(len(signs))])
	case 5, 6:
		return ctrl([]rune{8, 8, 9, 10, 10, 13, 7}[die.Intn(7)])
	case 7, 8:
		return csi([]rune("ABCDHHHmmz")[die.Intn(10)], thrownNumbers(die)...)
	case 9:
		if die.Intn(3) > 0 {
			return prints('y')
		}
		return csi([]rune("JKKK")[die.Intn(4)], die.Intn(4))
	}
}

// thrownNumbers are the numbers of a CSI, thrown by a die.
func thrownNumbers(die *rand.Rand) []int {
	var out []int
	for range die.Intn(4) {
		n := die.Intn(12)
		switch die.Intn(8) {
		case 0:
			n = die.Intn(310)
		case 1:
			n = int(die.Uint64())
		case 2:
			n = -n
		}
		out = append(out, n)
	}
	return out
}

// P9.2: long thrown runs of events on screens of any size.
func TestLongRuns(t *testing.T) {
	die := rand.New(rand.NewSource(9))
	for range 400 {
		w, h := 2+die.Intn(12), 1+die.Intn(6)
		s, m := screen.New(w, h), modelNew(w, h)
		for range 200 {
			checkDo(t, "a run", s, m, thrown(die))
		}
	}
}

// P9.2: long thrown runs on screens of the ends of what may be, and of a common one.
func TestLongRunsOnWideScreens(t *testing.T) {
	die := rand.New(rand.NewSource(10))
	for _, size := range []api.Pos{at(1, 2), at(100, 2), at(99, 3), at(1, 300), at(2, 299), at(24, 80), at(100, 300)} {
		w, h := size.Col, size.Row
		s, m := screen.New(w, h), modelNew(w, h)
		for n := range 6000 {
			e := thrown(die)
			checkRows(t, "what went out", s.Do(e), m.do(e), w)
			if n%100 == 99 {
				checkModel(t, "a run", s, m)
			}
		}
	}
}

// P9.1, P9.2: what a screen tells, handed to Of, makes one that goes on as it does.
func TestOfWhatWasTold(t *testing.T) {
	die := rand.New(rand.NewSource(11))
	for range 200 {
		w, h := 2+die.Intn(9), 1+die.Intn(5)
		s, m := screen.New(w, h), modelNew(w, h)
		for range 100 {
			checkDo(t, "a run", s, m, thrown(die))
			if die.Intn(10) == 0 {
				s = screen.Of(s.Rows(), w, h, s.Cursor(), s.Attr())
			}
		}
	}
}

// P9.1, P9.2: what another size cuts and fills goes on as the model does.
func TestOfOtherSizes(t *testing.T) {
	die := rand.New(rand.NewSource(12))
	for range 300 {
		s := screen.New(2+die.Intn(9), 1+die.Intn(5))
		for range 60 {
			s.Do(thrown(die))
		}
		rows, w, h := s.Rows(), 2+die.Intn(9), 1+die.Intn(5)
		from := at(die.Intn(h), die.Intn(w+1))
		s, m := screen.Of(rows, w, h, from, 8), modelOf(rows, w, h, from, 8)
		checkModel(t, "another size", s, m)
		for range 60 {
			checkDo(t, "another size", s, m, thrown(die))
		}
	}
}

// R1: whatever bytes come, the screen is as the pages have it.
func TestThrownBytes(t *testing.T) {
	bits := []string{
		"a", "b c", "中", "国国", "\u0301", "\xe4", "\xb8\xad", "\xff", "\x1b", "[", "]", ";", "2", "13", "A", "B", "C", "D", "H", "J", "K", "m", "?",
		"\x1b[", "\x1b[1", "\x1b[2;3H", "\x1b[K", "\x1b[1J", "\x1b[2J", "\x1b[5m", "\x1b]0;t\x07", "\x1b\\", "\r\n", "\n", "\t", "\b", "\x00", "\x7f",
	}
	die := rand.New(rand.NewSource(13))
	for range 200 {
		w, h := 2+die.Intn(9), 1+die.Intn(4)
		s, m := screen.New(w, h), modelNew(w, h)
		var reader utf.Reader
		var parser esc.Parser
		for range 150 {
			for _, b := range []byte(bits[die.Intn(len(bits))]) {
				for _, r := range reader.Put(b) {
					for _, e := range parser.Put(r) {
						checkDo(t, "bytes", s, m, e)
					}
				}
			}
		}
	}
}

// P9.2: what goes out, and in which order, on screens of one and two rows, one sign behind the other.
func TestWhatGoesOut(t *testing.T) {
	for h := 1; h <= 3; h++ {
		s := screen.New(3, h)
		var gone []api.Row
		for _, r := range "abc中de中f" {
			before := len(gone)
			if gone = append(gone, s.Do(prints(r))...); len(gone) > before+1 {
				t.Errorf("%d high: %d rows go out at once", h, len(gone)-before)
			}
		}
		all := readAll("abc|/中d|/e中|/f..")
		checkRows(t, "what went out", gone, all[:4-h], 3)
		check(t, "what stays", s, all[4-h:], at(h-1, 1), 0, 3, h)
	}
	s := screen.Of(readAll("ab_|/中c"), 3, 2, at(1, 0), 0)
	for _, want := range readAll("ab_|/中c/.../...") {
		checkRows(t, "what went out", s.Do(ctrl(10)), []api.Row{want}, 3)
	}
}
