package page_test

import (
	"math"
	"math/rand"
	"slices"
	"testing"

	"rotulus/api"
	"rotulus/cell"
	"rotulus/pack"
	"rotulus/page"
)

// of is a cell in short.
func of(r rune, w, a int) api.Cell { return api.Cell{R: r, W: w, A: a} }

// row is a row of such cells, not wrapped.
func row(parts ...[]api.Cell) api.Row { return api.Row{Cells: slices.Concat(parts...)} }

// wrapped is r, wrapped.
func wrapped(r api.Row) api.Row { return api.Row{Cells: r.Cells, Wrap: true} }

// letters are n alike cells.
func letters(r rune, n int) []api.Cell { return slices.Repeat([]api.Cell{of(r, 1, 0)}, n) }

// mixed are n cells, none like its neighbour.
func mixed(n int) []api.Cell {
	var out []api.Cell
	for i := range n {
		out = append(out, of('a'+rune(i%26), 1, 255))
	}
	return out
}

// wide are the cells of a wide sign.
func wide(a int) []api.Cell { return []api.Cell{of(0x4E2D, 2, a), of(0, 0, a)} }

// numbered is the row of n + 1 cells, so that no two numbers have the same row.
func numbered(n int) api.Row { return api.Row{Cells: mixed(n + 1), Wrap: n%2 == 1} }

// bytesOf is how many bytes numbered(n) takes (n up to 62): its head, and a run a cell.
func bytesOf(n int) int { return 1 + 5*(n+1) }

// same says whether a and b are the same row, without asking the program.
func same(a, b api.Row) bool { return a.Wrap == b.Wrap && slices.Equal(a.Cells, b.Cells) }

// full is a page of so many numbered rows.
func full(t *testing.T, n int) *page.Page {
	t.Helper()
	p := page.New()
	for i := range n {
		if !p.Add(numbered(i)) {
			t.Fatalf("Add of row %d = false", i)
		}
	}
	return p
}

// check holds all that p tells against the rows that it should have and the bytes that they take.
func check(t *testing.T, name string, p *page.Page, want []api.Row, bytes int) {
	t.Helper()
	if got := p.Len(); got != len(want) {
		t.Fatalf("%s: Len() = %d, not %d", name, got, len(want))
	}
	if got := p.Bytes(); got != bytes {
		t.Fatalf("%s: Bytes() = %d, not %d", name, got, bytes)
	}
	for i, r := range want {
		if got, ok := p.At(i); !ok || !same(got, r) {
			t.Fatalf("%s: At(%d) = %v, %v, not %v", name, i, got, ok, r)
		}
	}
	for _, i := range []int{-1, -2, -16, math.MinInt, len(want), len(want) + 1, 15, 16, 17, 1 << 32, math.MaxInt} {
		if 0 <= i && i < len(want) {
			continue
		}
		if got, ok := p.At(i); ok || got.Cells != nil || got.Wrap {
			t.Fatalf("%s: At(%d) of %d rows = %v, %v", name, i, len(want), got, ok)
		}
	}
}

// numbers are the rows numbered from..to-1, and the bytes that they take.
func numbers(from, to int) ([]api.Row, int) {
	var rows []api.Row
	bytes := 0
	for n := from; n < to; n++ {
		rows = append(rows, numbered(n))
		bytes += bytesOf(n)
	}
	return rows, bytes
}

// checkNumbers holds that p has the rows numbered from..to-1.
func checkNumbers(t *testing.T, name string, p *page.Page, from, to int) {
	t.Helper()
	rows, bytes := numbers(from, to)
	check(t, name, p, rows, bytes)
}

// P5.1: a new page, and one that is the zero value, have nothing and have room.
func TestNew(t *testing.T) {
	check(t, "New", page.New(), nil, 0)
	var zero page.Page
	check(t, "zero value", &zero, nil, 0)
	if !zero.Add(numbered(3)) {
		t.Error("zero value: Add = false")
	}
	checkNumbers(t, "zero value", &zero, 3, 4)
}

// sample is a row that may be, and how many bytes it takes.
type sample struct {
	name  string
	row   api.Row
	bytes int
}

// rowsThatMayBe are rows of all kinds.
func rowsThatMayBe() []sample {
	return []sample{
		{"nothing", api.Row{}, 1},
		{"an empty list", api.Row{Cells: []api.Cell{}}, 1},
		{"nothing, wrapped", api.Row{Wrap: true}, 1},
		{"a letter", row(letters('a', 1)), 5},
		{"a letter, wrapped", wrapped(row(letters('a', 1))), 5},
		{"an attribute of 127", row([]api.Cell{of('a', 1, 127)}), 5},
		{"the greatest attribute", row([]api.Cell{of('a', 1, 255)}), 6},
		{"the greatest sign", row([]api.Cell{of(0x10FFFF, 1, 0)}), 7},
		{"a letter with Blanks on both sides", row(letters(' ', 4), letters('a', 1), letters(' ', 3)), 13},
		{"Blanks alone", row(letters(' ', 80)), 5},
		{"Blanks alone, wrapped", wrapped(row(letters(' ', 80))), 5},
		{"a Pad", row([]api.Cell{cell.Pad()}), 5},
		{"a wide sign", row(wide(0)), 11},
		{"wide signs of two attributes, wrapped", wrapped(row(wide(200), wide(200), wide(1))), 35},
		{"a wide sign, a letter and a Pad", row(wide(7), letters('z', 1), []api.Cell{cell.Pad()}), 19},
		{"300 alike cells", row(letters('a', 300)), 6},
		{"300 cells, none like its neighbour, wrapped", wrapped(row(mixed(300))), 2 + 300*5},
		{"150 wide signs", row(slices.Repeat(wide(3), 150)), 2 + 150*(6+4)},
	}
}

// P5.1: rows of all kinds are told as they were added, each alone, all behind one another, and behind a Cut.
func TestRowsAsAdded(t *testing.T) {
	for _, x := range rowsThatMayBe() {
		p := page.New()
		if !p.Add(x.row) {
			t.Fatalf("%s: Add = false", x.name)
		}
		check(t, x.name, p, []api.Row{x.row}, x.bytes)
	}
	p := page.New()
	var want []api.Row
	total := 0
	for i, x := range rowsThatMayBe() {
		if len(want) == 16 {
			first := rowsThatMayBe()[i-16]
			if !p.Cut(1) {
				t.Fatal("Cut(1) of 16 = false")
			}
			want, total = want[1:], total-first.bytes
			check(t, "without "+first.name, p, want, total)
		}
		if !p.Add(x.row) {
			t.Fatalf("%s: Add behind %d = false", x.name, len(want))
		}
		want, total = append(want, x.row), total+x.bytes
		check(t, "up to "+x.name, p, want, total)
	}
}

// P5.1: the same row may stand in a page as often as there is room.
func TestSameRowAgain(t *testing.T) {
	p := page.New()
	var want []api.Row
	for n := range 16 {
		if !p.Add(numbered(2)) {
			t.Fatalf("Add %d = false", n)
		}
		want = append(want, numbered(2))
		check(t, "the same", p, want, bytesOf(2)*len(want))
	}
}

// rowsThatMayNot are rows that may not be.
func rowsThatMayNot() []api.Row {
	lists := [][]api.Cell{
		{of(7, 1, 0)},
		{of('a', 2, 0)},
		{of('a', 1, 256)},
		{of('a', 1, -1)},
		{of(-1, 1, 0)},
		{of(0x110000, 1, 0)},
		{of(0, 1, 1)},
		{of(math.MaxInt32, math.MaxInt, math.MinInt)},
		wide(0)[:1],
		wide(0)[1:],
		{wide(1)[0], wide(2)[1]},
		slices.Concat(letters('a', 3), wide(0)[:1]),
		slices.Concat(letters('a', 3), []api.Cell{of(7, 1, 0)}),
		letters('a', 301),
		mixed(301),
		slices.Repeat(wide(0), 151),
		letters('a', 100000),
	}
	var out []api.Row
	for _, l := range lists {
		out = append(out, row(l), wrapped(row(l)))
	}
	return out
}

// P5.1: rows that may not be are refused, and nothing is changed: in a page with nothing, with some rows, and with all.
func TestRowsThatMayNot(t *testing.T) {
	for _, n := range []int{0, 1, 5, 15, 16} {
		p := full(t, n)
		for _, r := range rowsThatMayNot() {
			if p.Add(r) {
				t.Fatalf("Add of a row that may not be, behind %d = true: %v", n, r)
			}
			checkNumbers(t, "refused", p, 0, n)
		}
		if got := p.Add(numbered(n)); got != (n < 16) {
			t.Errorf("Add behind those refused, of %d rows = %v", n, got)
		}
	}
}

// P5.1: each row up to the sixteenth goes in, behind the others; the seventeenth does not.
func TestRoomForSixteen(t *testing.T) {
	if api.PageRows != 16 {
		t.Fatalf("PageRows = %d", api.PageRows)
	}
	p := page.New()
	for n := range 16 {
		if !p.Add(numbered(n)) {
			t.Fatalf("Add of row %d = false", n)
		}
		checkNumbers(t, "Add", p, 0, n+1)
	}
	for _, r := range []api.Row{numbered(16), numbered(0), {}, {Wrap: true}} {
		if p.Add(r) {
			t.Errorf("Add of the seventeenth = true: %v", r)
		}
		checkNumbers(t, "the seventeenth", p, 0, 16)
	}
}

// P5.1: of each many rows each many can be cut in front; no other number cuts, or changes, anything.
func TestCut(t *testing.T) {
	for many := range 17 {
		for n := range many + 1 {
			p := full(t, many)
			if !p.Cut(n) {
				t.Fatalf("Cut(%d) of %d = false", n, many)
			}
			checkNumbers(t, "Cut", p, n, many)
		}
		for _, n := range []int{-1, -2, -many - 1, math.MinInt, many + 1, many + 2, many + 16, 1 << 32, math.MaxInt} {
			p := full(t, many)
			if p.Cut(n) {
				t.Fatalf("Cut(%d) of %d = true", n, many)
			}
			checkNumbers(t, "Cut refused", p, 0, many)
		}
	}
}

// P5.1: one cut behind the other, down to nothing; then none is left to cut.
func TestCutAgain(t *testing.T) {
	p := full(t, 16)
	from := 0
	for _, n := range []int{1, 0, 3, 1, 5, 6} {
		if p.Cut(17 - from) {
			t.Fatalf("Cut(%d) of %d = true", 17-from, 16-from)
		}
		if !p.Cut(n) {
			t.Fatalf("Cut(%d) of %d = false", n, 16-from)
		}
		from += n
		checkNumbers(t, "Cut", p, from, 16)
	}
	if p.Cut(1) || !p.Cut(0) {
		t.Error("Cut of nothing: 1 may be, or 0 may not")
	}
	checkNumbers(t, "Cut of all", p, 16, 16)
}

// P5.1: behind a Cut there is room for as many rows as are gone, and for no more.
func TestRoomBehindCut(t *testing.T) {
	for n := range 17 {
		p := full(t, 16)
		if !p.Cut(n) {
			t.Fatalf("Cut(%d) = false", n)
		}
		for k := 16; k < 16+n; k++ {
			if !p.Add(numbered(k)) {
				t.Fatalf("Cut(%d), then Add of row %d = false", n, k)
			}
			checkNumbers(t, "Add behind Cut", p, n, k+1)
		}
		if p.Add(numbered(0)) {
			t.Fatalf("Cut(%d), then Add of the seventeenth = true", n)
		}
		checkNumbers(t, "room again", p, n, 16+n)
	}
}

// P5.1: one goes and one comes, many times over: no page wears out.
func TestRoomOverAndOver(t *testing.T) {
	p := full(t, 16)
	for range 1000 {
		first, ok := p.At(0)
		if !ok || !p.Cut(1) || !p.Add(first) || p.Add(first) {
			t.Fatal("there is no room for just the one that is gone")
		}
	}
	// Of sixteen rows that went round a thousand times the one in front is 1000 mod 16.
	rows, bytes := numbers(0, 16)
	check(t, "over and over", p, slices.Concat(rows[8:], rows[:8]), bytes)
}

// P5.1: calls thrown by a die, held against a list of rows; the bytes are what pack.Put tells.
func TestThrownCalls(t *testing.T) {
	die := rand.New(rand.NewSource(5))
	may, mayNot := rowsThatMayBe(), rowsThatMayNot()
	p := page.New()
	var want []api.Row
	for range 20000 {
		switch die.Intn(8) {
		case 0:
			n := die.Intn(20) - 2
			fits := 0 <= n && n <= len(want)
			if got := p.Cut(n); got != fits {
				t.Fatalf("Cut(%d) of %d = %v", n, len(want), got)
			}
			if fits {
				want = want[n:]
			}
		case 1:
			if r := mayNot[die.Intn(len(mayNot))]; p.Add(r) {
				t.Fatalf("Add of a row that may not be = true: %v", r)
			}
		default:
			r := may[die.Intn(len(may))].row
			room := len(want) < 16
			if got := p.Add(r); got != room {
				t.Fatalf("Add behind %d = %v", len(want), got)
			}
			if room {
				want = append(want, r)
			}
		}
		check(t, "thrown", p, want, packed(want))
	}
}

// packed is how many bytes pack.Put tells of rows.
func packed(rows []api.Row) int {
	total := 0
	for _, r := range rows {
		b, _ := pack.Put(r)
		total += len(b)
	}
	return total
}

// P0.5: what one page is told is nothing to another.
func TestPagesApart(t *testing.T) {
	a, b, c := full(t, 16), full(t, 3), page.New()
	if !a.Cut(4) || !b.Add(numbered(3)) || !c.Add(numbered(9)) {
		t.Fatal("a call = false")
	}
	checkNumbers(t, "one cut", a, 4, 16)
	checkNumbers(t, "one added to", b, 0, 4)
	checkNumbers(t, "one that was new", c, 9, 10)
	check(t, "one that is new", page.New(), nil, 0)
}

// P0.5: a copy of a page is a page of its own: what either is told later is nothing to the other.
func TestCopyOfPage(t *testing.T) {
	for n := range 17 {
		p := full(t, n)
		q := *p
		p.Add(numbered(20))
		p.Cut(n / 2)
		checkNumbers(t, "copy, the page changed", &q, 0, n)
		p = full(t, n)
		q = *p
		q.Add(numbered(21))
		q.Cut(n)
		checkNumbers(t, "page, its copy changed", p, 0, n)
	}
}

// overwrite writes into a list and its spare room.
func overwrite(l []api.Cell) {
	l = l[:cap(l)]
	for i := range l {
		l[i] = of('!', 1, 99)
	}
}

// P0.3: a row that is handed in stays as it was, its spare room too, and is not kept.
func TestHandedInIsNotKept(t *testing.T) {
	for _, x := range rowsThatMayBe() {
		room := slices.Concat(x.row.Cells, letters('r', 5))
		before := slices.Clone(room)
		r := api.Row{Cells: room[:len(x.row.Cells)], Wrap: x.row.Wrap}
		p := page.New()
		if !p.Add(r) || !p.Add(r) {
			t.Fatalf("%s: Add = false", x.name)
		}
		p.At(0)
		if !slices.Equal(room, before) {
			t.Errorf("%s: what was handed in is changed: %v", x.name, room)
		}
		overwrite(room)
		check(t, x.name, p, []api.Row{x.row, x.row}, 2*x.bytes)
		if !p.Cut(1) {
			t.Fatalf("%s: Cut(1) = false", x.name)
		}
		check(t, x.name, p, []api.Row{x.row}, x.bytes)
	}
	for _, r := range rowsThatMayNot() {
		before := slices.Clone(r.Cells)
		p := page.New()
		p.Add(r)
		if !slices.Equal(r.Cells, before) {
			t.Errorf("a row that was refused is changed: %v", r)
		}
	}
}

// P5.1, P0.3: a row that is told is the caller's own: who writes into it, spare room too, changes nothing in the page nor in what was told or is told elsewhere.
func TestToldIsTheCallersOwn(t *testing.T) {
	for _, x := range rowsThatMayBe() {
		p := page.New()
		if !p.Add(x.row) || !p.Add(x.row) {
			t.Fatalf("%s: Add = false", x.name)
		}
		first, _ := p.At(0)
		second, _ := p.At(0)
		other, _ := p.At(1)
		overwrite(first.Cells)
		if !same(second, x.row) || !same(other, x.row) {
			t.Errorf("%s: two answers share memory: %v, %v", x.name, second, other)
		}
		check(t, x.name, p, []api.Row{x.row, x.row}, 2*x.bytes)
	}
}

// P0.3: a row that was told stays as it was, whatever the page is told later.
func TestToldStays(t *testing.T) {
	p := full(t, 16)
	var told []api.Row
	for i := range 16 {
		r, _ := p.At(i)
		told = append(told, r)
	}
	if !p.Cut(7) || !p.Add(numbered(20)) || !p.Cut(10) || !p.Add(numbered(21)) {
		t.Fatal("a call = false")
	}
	for i, r := range told {
		if !same(r, numbered(i)) {
			t.Errorf("row %d is %v now", i, r)
		}
	}
}

// P5.1: a nil *Page has no rows and no room.
func TestNilPage(t *testing.T) {
	var p *page.Page
	for _, r := range []api.Row{{}, {Wrap: true}, numbered(4), row(wide(0)), row(letters('a', 301))} {
		if p.Add(r) {
			t.Errorf("Add(%v) = true", r)
		}
	}
	for _, n := range []int{math.MinInt, -1, 0, 1, 16, 17, math.MaxInt} {
		if p.Cut(n) {
			t.Errorf("Cut(%d) = true", n)
		}
		if r, ok := p.At(n); ok || r.Cells != nil || r.Wrap {
			t.Errorf("At(%d) = %v, %v", n, r, ok)
		}
	}
	if p.Len() != 0 || p.Bytes() != 0 {
		t.Errorf("Len() = %d, Bytes() = %d", p.Len(), p.Bytes())
	}
}
