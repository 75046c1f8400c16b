package store_test

import (
	"iter"
	"math"
	"math/rand"
	"slices"
	"testing"

	"rotulus/api"
	"rotulus/cell"
	"rotulus/pack"
	"rotulus/store"
)

// of is a cell in short.
func of(r rune, w, a int) api.Cell { return api.Cell{R: r, W: w, A: a} }

// wide are the cells of a wide sign.
func wide(a int) []api.Cell { return []api.Cell{of(0x4E2D, 2, a), of(0, 0, a)} }

// letters are n alike cells.
func letters(r rune, n int) []api.Cell { return slices.Repeat([]api.Cell{of(r, 1, 0)}, n) }

// mixed are n cells, none like its neighbour.
func mixed(n int) []api.Cell {
	var out []api.Cell
	for i := range n {
		out = append(out, of('a'+rune(i%26), 1, 255))
	}
	return out
}

// kept is a row, and how many bytes it takes.
type kept struct {
	row   api.Row
	bytes int
}

// numbered is the row of the number n, with its own signs: two cells in runs of their own of 1 + 2 + 1 + 1 bytes, behind a head of one.
func numbered(n int) kept {
	l := []api.Cell{of(0x2500+rune(n/100), 1, 0), of(0x2580+rune(n%100), 1, 0)}
	return kept{api.Row{Cells: l, Wrap: n%3 == 0}, 1 + 2*(1+2+1+1)}
}

// same says whether a and b are the same row, without asking the program.
func same(a, b api.Row) bool { return a.Wrap == b.Wrap && slices.Equal(a.Cells, b.Cells) }

// model is what the chapter asks of a store, as a plain list.
type model struct {
	limit, gone int
	rows        []kept
}

// add is Add of a row that may be.
func (m *model) add(x kept) {
	m.rows = append(m.rows, x)
	m.setLimit(m.limit)
}

// setLimit is SetLimit of a limit that may be.
func (m *model) setLimit(n int) {
	m.limit = n
	for len(m.rows) > n {
		m.rows = m.rows[1:]
		m.gone++
	}
}

// check holds all that s tells against m.
func check(t *testing.T, name string, s *store.Store, m model) {
	t.Helper()
	checkNumbers(t, name, s, m)
	for i, x := range m.rows {
		if r, ok := s.At(i); !ok || !same(r, x.row) {
			t.Fatalf("%s: At(%d) = %v, %v, not %v", name, i, r, ok, x.row)
		}
	}
	checkAll(t, name, s.All(), m.rows)
}

// checkNumbers holds the numbers that s tells, and that At tells no row beside the ones that there are.
func checkNumbers(t *testing.T, name string, s *store.Store, m model) {
	t.Helper()
	total := 0
	for _, x := range m.rows {
		total += x.bytes
	}
	if s.Len() != len(m.rows) || s.Limit() != m.limit || s.Gone() != m.gone || s.Bytes() != total {
		t.Fatalf("%s: Len, Limit, Gone, Bytes = %d, %d, %d, %d, not %d, %d, %d, %d", name,
			s.Len(), s.Limit(), s.Gone(), s.Bytes(), len(m.rows), m.limit, m.gone, total)
	}
	n := len(m.rows)
	for _, i := range []int{math.MinInt, -1 << 32, -17, -16, -2, -1, n, n + 1, n + 15, n + 16, n + 17, n + 1<<32, math.MaxInt} {
		if r, ok := s.At(i); ok || r.Cells != nil || r.Wrap {
			t.Fatalf("%s: At(%d) of %d rows = %v, %v", name, i, n, r, ok)
		}
	}
}

// checkAll holds that all tells just these rows, with their numbers.
func checkAll(t *testing.T, name string, all iter.Seq2[int, api.Row], want []kept) {
	t.Helper()
	n := 0
	for i, r := range all {
		if n == len(want) || i != n || !same(r, want[n].row) {
			t.Fatalf("%s: All tells %d, %v as number %d of %d", name, i, r, n, len(want))
		}
		n++
	}
	if n != len(want) {
		t.Fatalf("%s: All tells %d rows, not %d", name, n, len(want))
	}
}

// add adds the rows numbered from..to-1.
func add(t *testing.T, s *store.Store, m *model, from, to int) {
	t.Helper()
	for n := from; n < to; n++ {
		if !s.Add(numbered(n).row) {
			t.Fatalf("Add of row %d = false", n)
		}
		m.add(numbered(n))
	}
}

// full is a store of that limit, to which so many numbered rows came.
func full(t *testing.T, limit, many int) (*store.Store, model) {
	t.Helper()
	s, m := store.New(limit), model{limit: limit}
	add(t, s, &m, 0, many)
	return s, m
}

// limits are limits, and the ones nearest to them that may be.
func limits() map[int]int {
	return map[int]int{
		math.MinInt: 0, -1 << 40: 0, -1000000: 0, -2: 0, -1: 0, 0: 0,
		1: 1, 2: 2, 15: 15, 16: 16, 17: 17, 2000: 2000, 999999: 999999,
		1000000: 1000000, 1000001: 1000000, 1 << 32: 1000000, math.MaxInt: 1000000,
	}
}

// P6.1: a new store has nothing, and its limit, or the nearer end; it holds behind each row.
func TestNew(t *testing.T) {
	if api.MaxLimit != 1000000 {
		t.Fatalf("MaxLimit = %d", api.MaxLimit)
	}
	for limit, want := range limits() {
		s, m := store.New(limit), model{limit: want}
		check(t, "New", s, m)
		for n := range 20 {
			add(t, s, &m, n, n+1)
			check(t, "New, Add", s, m)
		}
	}
}

// P6.1: SetLimit takes the nearer end too, and the eldest go.
func TestSetLimitNearerEnd(t *testing.T) {
	for limit, want := range limits() {
		s, m := full(t, 40, 40)
		s.SetLimit(limit)
		m.setLimit(want)
		check(t, "SetLimit", s, m)
		add(t, s, &m, 40, 60)
		check(t, "SetLimit, Add", s, m)
	}
}

// rowsThatMayBe are rows of all kinds.
func rowsThatMayBe() []kept {
	wrapped := func(l []api.Cell) api.Row { return api.Row{Cells: l, Wrap: true} }
	return []kept{
		{api.Row{}, 1},
		{api.Row{Cells: []api.Cell{}}, 1},
		{api.Row{Wrap: true}, 1},
		{api.Row{Cells: letters('a', 1)}, 5},
		{wrapped(letters('a', 1)), 5},
		{api.Row{Cells: []api.Cell{of(0x10FFFF, 1, 255)}}, 8},
		{api.Row{Cells: slices.Concat(letters(' ', 2), letters('a', 3), letters(' ', 5))}, 13},
		{wrapped(letters(' ', 80)), 5},
		{api.Row{Cells: wide(0)}, 11},
		{wrapped(slices.Concat(wide(200), wide(1), []api.Cell{cell.Pad()})), 1 + 12 + 10 + 4},
		{api.Row{Cells: letters('a', 300)}, 6},
		{wrapped(mixed(300)), 2 + 300*5},
		{api.Row{Cells: slices.Repeat(wide(3), 150)}, 2 + 150*(6+4)},
	}
}

// P6.1: rows of all kinds are told as they were added, each alone, all in their order, and as they go.
func TestRowsAsAdded(t *testing.T) {
	for _, limit := range []int{0, 1, 5, 13, 100} {
		all, m := store.New(limit), model{limit: limit}
		for _, x := range rowsThatMayBe() {
			alone := store.New(limit)
			if !alone.Add(x.row) || !all.Add(x.row) {
				t.Fatalf("limit %d: Add = false: %v", limit, x.row)
			}
			only := model{limit: limit}
			only.add(x)
			check(t, "alone", alone, only)
			m.add(x)
			check(t, "all", all, m)
		}
	}
}

// P6.1: Bytes is what pack.Put tells of all rows.
func TestBytesAsPacked(t *testing.T) {
	s := store.New(7)
	for _, x := range slices.Concat(rowsThatMayBe(), rowsThatMayBe()) {
		s.Add(x.row)
		total := 0
		for _, r := range s.All() {
			b, _ := pack.Put(r)
			total += len(b)
		}
		if s.Bytes() != total {
			t.Fatalf("Bytes() = %d, not %d", s.Bytes(), total)
		}
	}
}

// rowsThatMayNot are rows that may not be.
func rowsThatMayNot() []api.Row {
	lists := [][]api.Cell{
		{of(7, 1, 0)},
		{of('a', 2, 0)},
		{of('a', 1, 256)},
		{of('a', 1, -1)},
		{of(-1, 1, 0)},
		{of(0x110000, 1, 0)},
		{of(math.MinInt32, math.MinInt, math.MaxInt)},
		wide(0)[:1],
		wide(0)[1:],
		{wide(1)[0], wide(2)[1]},
		slices.Concat(letters('a', 3), wide(0)[:1]),
		letters('a', 301),
		slices.Repeat(wide(0), 151),
		letters('a', 100000),
	}
	var out []api.Row
	for _, l := range lists {
		out = append(out, api.Row{Cells: l}, api.Row{Cells: l, Wrap: true})
	}
	return out
}

// P6.1: a row that may not be is refused, and changes nothing: no row goes for it, at a page's edge or at the limit either.
func TestRowsThatMayNot(t *testing.T) {
	for _, limit := range []int{0, 1, 5, 15, 16, 17, 32, 100} {
		for _, many := range []int{0, 1, 5, 15, 16, 17, 31, 32, 33} {
			s, m := full(t, limit, many)
			for _, r := range rowsThatMayNot() {
				if s.Add(r) {
					t.Fatalf("limit %d: Add behind %d = true: %v", limit, many, r)
				}
			}
			check(t, "refused", s, m)
			add(t, s, &m, many, many+2)
			check(t, "behind those refused", s, m)
		}
	}
}

// P6.1: rows come one by one over the edges of pages, and go one by one, the eldest first.
func TestPageEdges(t *testing.T) {
	s, m := full(t, 1000, 0)
	for n := range 70 {
		check(t, "coming", s, m)
		add(t, s, &m, n, n+1)
	}
	for n := 69; n >= 0; n-- {
		s.SetLimit(n)
		m.setLimit(n)
		check(t, "going", s, m)
	}
}

// P6.1: each row that comes to a full store drives just the eldest out; of the limit 0 it is gone at once. (R5: the limit holds behind each step.)
func TestEldestGoes(t *testing.T) {
	for _, limit := range []int{0, 1, 2, 3, 15, 16, 17, 18, 31, 32, 33, 34, 48} {
		s, m := full(t, limit, 0)
		for n := range 120 {
			add(t, s, &m, n, n+1)
			check(t, "Add", s, m)
			if wantGone := max(0, n+1-limit); s.Gone() != wantGone || s.Len() > limit {
				t.Fatalf("limit %d: %d are gone of %d, %d are left", limit, s.Gone(), n+1, s.Len())
			}
		}
	}
}

// P6.1: of each many rows, with each many ahead of them gone, the eldest go to each limit; then there is room for as many as the limit has, and no more.
func TestSetLimitFalls(t *testing.T) {
	for _, ahead := range []int{0, 1, 7, 15, 16, 20} {
		for many := 0; many <= 50; many += 5 {
			for limit := range 53 {
				s, m := full(t, many, many+ahead)
				s.SetLimit(limit)
				m.setLimit(limit)
				check(t, "SetLimit", s, m)
				add(t, s, &m, 100, 120)
				check(t, "SetLimit, Add", s, m)
			}
		}
	}
}

// P6.1: limits one behind the other, falling, the same, rising, none and too great ones: what went does not come back.
func TestSetLimitAgain(t *testing.T) {
	s, m := full(t, 60, 100)
	for i, n := range []int{60, 61, 59, 59, 49, 48, 200, 33, 33, 32, 31, 17, 16, 15, 1000000, 14, 1, 1, 1, 0, 0, 5, 40, 18, 100} {
		s.SetLimit(n)
		m.setLimit(n)
		check(t, "SetLimit", s, m)
		if i%3 == 2 {
			add(t, s, &m, 100+3*i, 103+3*i)
			check(t, "SetLimit, Add", s, m)
		}
	}
	for _, n := range []int{-1, math.MinInt, 1000001, math.MaxInt} {
		s.SetLimit(n)
		m.setLimit(limits()[n])
		check(t, "SetLimit of none", s, m)
	}
}

// P6.1: what went does not come back, whatever the limit rises to.
func TestSetLimitRises(t *testing.T) {
	for _, low := range []int{0, 1, 15, 16, 17, 30} {
		for _, high := range []int{31, 100, 1000000} {
			s, m := full(t, 40, 40)
			for _, n := range []int{low, high} {
				s.SetLimit(n)
				m.setLimit(n)
				check(t, "fallen and risen", s, m)
			}
			if s.Len() != low || s.Gone() != 40-low {
				t.Errorf("%d to %d: %d rows, %d gone", low, high, s.Len(), s.Gone())
			}
			add(t, s, &m, 40, 90)
			check(t, "risen, Add", s, m)
		}
	}
}

// P6.1: a million rows are kept, and not one more.
func TestGreatestLimit(t *testing.T) {
	s := store.New(math.MaxInt)
	const more = 1000
	for n := range api.MaxLimit + more {
		if !s.Add(api.Row{Cells: []api.Cell{of(0x10000+rune(n%1000), 1, n%100)}}) {
			t.Fatalf("Add of row %d = false", n)
		}
		if s.Len() != min(n+1, api.MaxLimit) || s.Gone() != max(0, n+1-api.MaxLimit) || s.Bytes() != 7*s.Len() {
			t.Fatalf("behind %d: Len, Gone, Bytes = %d, %d, %d", n+1, s.Len(), s.Gone(), s.Bytes())
		}
	}
	n := more
	for i, r := range s.All() {
		if i != n-more || r.Cells[0] != of(0x10000+rune(n%1000), 1, n%100) {
			t.Fatalf("All tells %d, %v as number %d", i, r, n-more)
		}
		n++
	}
	if n != api.MaxLimit+more {
		t.Errorf("All ends at %d", n)
	}
	s.SetLimit(1)
	if r, ok := s.At(0); !ok || r.Cells[0] != of(0x103E7, 1, 99) || s.Gone() != api.MaxLimit+more-1 || s.Bytes() != 7 {
		t.Errorf("the last one: %v, %v, %d gone, %d bytes", r, ok, s.Gone(), s.Bytes())
	}
}

// P6.1: All ends when it is told to, at each row, and begins anew behind that, called anew or not.
func TestAllEnded(t *testing.T) {
	for _, many := range []int{0, 1, 2, 16, 17, 40} {
		s, m := full(t, many, many+5)
		all := s.All()
		for end := range many {
			told := 0
			all(func(i int, r api.Row) bool {
				if i != told || !same(r, m.rows[i].row) {
					t.Fatalf("All tells %d, %v as number %d", i, r, told)
				}
				told++
				return i < end
			})
			if told != end+1 {
				t.Fatalf("All, ended at %d of %d, tells %d rows", end, many, told)
			}
			checkAll(t, "the same All anew", all, m.rows)
			checkAll(t, "another All", s.All(), m.rows)
		}
		check(t, "behind All", s, m)
	}
}

// P6.1: All is gone through twice at once, one inside the other, and by turns.
func TestAllTwiceAtOnce(t *testing.T) {
	s, m := full(t, 20, 25)
	all := s.All()
	n := 0
	for i, r := range all {
		if i != n || !same(r, m.rows[n].row) {
			t.Fatalf("the outer one tells %d, %v as number %d", i, r, n)
		}
		checkAll(t, "the inner one", all, m.rows)
		checkAll(t, "another one inside", s.All(), m.rows)
		n++
	}
	if n != 20 {
		t.Errorf("the outer one tells %d rows", n)
	}
	next, stop := iter.Pull2(all)
	defer stop()
	for i, r := range all {
		k, other, ok := next()
		if !ok || k != i || !same(r, other) {
			t.Fatalf("by turns: %d, %v and %d, %v, %v", i, r, k, other, ok)
		}
	}
	if _, _, ok := next(); ok {
		t.Error("by turns: there is one row more")
	}
}

// P6.1, P0.1: All of an empty store, and of a nil one, tells nothing; so does All when there is nobody to tell.
func TestAllOfNothing(t *testing.T) {
	var none, zero store.Store
	zero.SetLimit(3)
	gone, m := full(t, 20, 25)
	gone.SetLimit(0)
	m.setLimit(0)
	check(t, "all gone", gone, m)
	for _, s := range []*store.Store{nil, &none, &zero, store.New(0), store.New(9), gone} {
		checkAll(t, "nothing", s.All(), nil)
		s.All()(nil)
	}
	some, m := full(t, 20, 25)
	some.All()(nil)
	check(t, "nobody", some, m)
}

// P0.5: All tells what there was when it was called, whatever the store is told behind that, or while it is gone through.
func TestAllAsItWas(t *testing.T) {
	changes := map[string]func(*store.Store){
		"Add":          func(s *store.Store) { s.Add(numbered(99).row) },
		"SetLimit 0":   func(s *store.Store) { s.SetLimit(0) },
		"SetLimit 7":   func(s *store.Store) { s.SetLimit(7) },
		"SetLimit 100": func(s *store.Store) { s.SetLimit(100); s.Add(numbered(98).row) },
	}
	for name, change := range changes {
		for _, many := range []int{1, 15, 16, 17, 40} {
			s, m := full(t, 20, many)
			was := slices.Clone(m.rows)
			all := s.All()
			change(s)
			checkAll(t, name+" behind", all, was)
			s, m = full(t, 20, many)
			n := 0
			for i, r := range s.All() {
				change(s)
				if i != n || !same(r, m.rows[n].row) {
					t.Fatalf("%s within: All tells %d, %v as number %d", name, i, r, n)
				}
				n++
			}
			if n != len(m.rows) {
				t.Fatalf("%s within: All tells %d rows, not %d", name, n, len(m.rows))
			}
		}
	}
}

// overwrite writes into a list and its spare room.
func overwrite(l []api.Cell) {
	l = l[:cap(l)]
	for i := range l {
		l[i] = of('!', 1, 99)
	}
}

// P0.3: a row that is handed in stays as it was, its spare room too, and is not kept.
func TestHandedInIsNotKept(t *testing.T) {
	for _, x := range rowsThatMayBe() {
		room := slices.Concat(x.row.Cells, letters('r', 5))
		before := slices.Clone(room)
		r := api.Row{Cells: room[:len(x.row.Cells)], Wrap: x.row.Wrap}
		s, m := full(t, 20, 18)
		for range 4 {
			if !s.Add(r) {
				t.Fatalf("Add = false: %v", r)
			}
			m.add(x)
		}
		if !slices.Equal(room, before) {
			t.Errorf("what was handed in is changed: %v", room)
		}
		overwrite(room)
		check(t, "overwritten", s, m)
	}
	for _, r := range rowsThatMayNot() {
		before := slices.Clone(r.Cells)
		store.New(3).Add(r)
		if !slices.Equal(r.Cells, before) {
			t.Errorf("a row that was refused is changed: %v", r)
		}
	}
}

// P6.1, P0.3: a row that is told is the caller's own: who writes into it, spare room too, changes nothing in the store nor in what was told or is told elsewhere.
func TestToldIsTheCallersOwn(t *testing.T) {
	s, m := store.New(20), model{limit: 20}
	for _, x := range slices.Concat(rowsThatMayBe(), rowsThatMayBe()) {
		s.Add(x.row)
		m.add(x)
	}
	all := s.All()
	for i, x := range m.rows {
		first, _ := s.At(i)
		second, _ := s.At(i)
		overwrite(first.Cells)
		if !same(second, x.row) {
			t.Errorf("two answers of At(%d) share memory: %v", i, second)
		}
	}
	checkAll(t, "At overwritten", all, m.rows)
	for i, r := range all {
		other, _ := s.At(i)
		overwrite(r.Cells)
		if !same(other, m.rows[i].row) {
			t.Errorf("answers of All and At(%d) share memory: %v", i, other)
		}
	}
	checkAll(t, "the same All, overwritten", all, m.rows)
	check(t, "All overwritten", s, m)
}

// P0.3: a row that was told stays as it was, whatever the store is told later.
func TestToldStays(t *testing.T) {
	s, m := full(t, 20, 25)
	was := slices.Clone(m.rows)
	var told []api.Row
	for _, r := range s.All() {
		told = append(told, r)
	}
	for i := range was {
		r, _ := s.At(i)
		told = append(told, r)
	}
	add(t, s, &m, 200, 212)
	s.SetLimit(5)
	add(t, s, &m, 212, 240)
	for i, r := range told {
		if !same(r, was[i%len(was)].row) {
			t.Errorf("row %d is %v now", i, r)
		}
	}
}

// P0.5: what one store is told is nothing to another.
func TestStoresApart(t *testing.T) {
	a, ma := full(t, 20, 30)
	b, mb := full(t, 20, 30)
	c, mc := full(t, 4, 2)
	add(t, a, &ma, 50, 60)
	b.SetLimit(3)
	mb.setLimit(3)
	add(t, c, &mc, 7, 9)
	check(t, "one added to", a, ma)
	check(t, "one of a lower limit", b, mb)
	check(t, "a small one", c, mc)
	check(t, "a new one", store.New(8), model{limit: 8})
}

// P6.1: calls thrown by a die, held against the model.
func TestThrownCalls(t *testing.T) {
	die := rand.New(rand.NewSource(6))
	may, mayNot := rowsThatMayBe(), rowsThatMayNot()
	s, m := full(t, 30, 0)
	for range 20000 {
		switch k := die.Intn(40); {
		case k == 0:
			n := die.Intn(70) - 5
			s.SetLimit(n)
			m.setLimit(max(n, 0))
		case k < 3:
			if r := mayNot[die.Intn(len(mayNot))]; s.Add(r) {
				t.Fatalf("Add of a row that may not be = true: %v", r)
			}
		case k < 8:
			x := may[die.Intn(len(may))]
			if !s.Add(x.row) {
				t.Fatalf("Add = false: %v", x.row)
			}
			m.add(x)
		default:
			n := die.Intn(10000)
			add(t, s, &m, n, n+1)
		}
		check(t, "thrown", s, m)
	}
}

// P6.1: a nil *Store has no rows, no limit and no room.
func TestNilStore(t *testing.T) {
	var s *store.Store
	for _, r := range []api.Row{{}, {Wrap: true}, numbered(4).row, {Cells: wide(0)}, {Cells: letters('a', 301)}} {
		if s.Add(r) {
			t.Errorf("Add(%v) = true", r)
		}
	}
	for _, n := range []int{math.MinInt, -1, 0, 1, 16, 1000000, math.MaxInt} {
		s.SetLimit(n)
		check(t, "nil", s, model{})
	}
}

// P0.1: the zero value is a store of the limit 0.
func TestZeroValue(t *testing.T) {
	var s store.Store
	m := model{}
	check(t, "zero value", &s, m)
	add(t, &s, &m, 0, 20)
	check(t, "zero value, Add", &s, m)
	s.SetLimit(17)
	m.setLimit(17)
	add(t, &s, &m, 20, 60)
	check(t, "zero value, SetLimit, Add", &s, m)
}
