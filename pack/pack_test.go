package pack_test

import (
	"bytes"
	"encoding/binary"
	"encoding/hex"
	"math"
	"math/rand"
	"slices"
	"strings"
	"testing"

	"rotulus/api"
	"rotulus/cell"
	"rotulus/pack"
)

// of is a cell in short.
func of(r rune, w, a int) api.Cell { return api.Cell{R: r, W: w, A: a} }

// wide are the cells of a wide sign.
func wide(a int) []api.Cell { return []api.Cell{of(0x4E2D, 2, a), of(0, 0, a)} }

// letters are so many alike cells.
func letters(n int) []api.Cell { return slices.Repeat([]api.Cell{of('a', 1, 0)}, n) }

// mixed are n cells, none like its neighbour.
func mixed(n int) []api.Cell {
	var out []api.Cell
	for i := range n {
		out = append(out, of('a'+rune(i%26), 1, 255))
	}
	return out
}

// join puts lists of cells one behind the other.
func join(parts ...[]api.Cell) []api.Cell { return slices.Concat(parts...) }

// same says whether a and b are the same row, without asking the program.
func same(a, b api.Row) bool {
	return a.Wrap == b.Wrap && slices.Equal(a.Cells, b.Cells)
}

// unhex makes bytes of digits; blanks between them are for the eye.
func unhex(t *testing.T, s string) []byte {
	t.Helper()
	b, err := hex.DecodeString(strings.ReplaceAll(s, " ", ""))
	if err != nil {
		t.Fatal(err)
	}
	return b
}

// strew calls f with all texts of n bytes out of these.
func strew(from []byte, n int, f func([]byte)) {
	text := make([]byte, n)
	var fill func(int)
	fill = func(i int) {
		if i == n {
			f(text)
			return
		}
		for _, b := range from {
			text[i] = b
			fill(i + 1)
		}
	}
	fill(0)
}

// everyByte are the bytes from 0 to FF.
func everyByte() []byte {
	out := make([]byte, 256)
	for i := range out {
		out[i] = byte(i)
	}
	return out
}

// P4.1: numbers at the ends of each length, byte by byte.
func TestUint(t *testing.T) {
	for _, x := range []struct {
		n    uint64
		want string
	}{
		{0, "00"},
		{1, "01"},
		{0x7F, "7f"},
		{0x80, "8001"},
		{0x81, "8101"},
		{0xFF, "ff01"},
		{0x100, "8002"},
		{300, "ac02"},
		{1<<14 - 1, "ff7f"},
		{1 << 14, "808001"},
		{0x4E2D, "ad9c01"},
		{1<<21 - 1, "ffff7f"},
		{1 << 21, "80808001"},
		{1<<28 - 1, "ffffff7f"},
		{1 << 28, "8080808001"},
		{1<<35 - 1, "ffffffff7f"},
		{1 << 35, "808080808001"},
		{1<<42 - 1, "ffffffffff7f"},
		{1 << 42, "80808080808001"},
		{1<<49 - 1, "ffffffffffff7f"},
		{1 << 49, "8080808080808001"},
		{1<<56 - 1, "ffffffffffffff7f"},
		{1 << 56, "808080808080808001"},
		{1<<63 - 1, "ffffffffffffffff7f"},
		{1 << 63, "80808080808080808001"},
		{math.MaxUint64 - 1, "feffffffffffffffff01"},
		{math.MaxUint64, "ffffffffffffffffff01"},
	} {
		want := unhex(t, x.want)
		if got := pack.Uint(x.n); !bytes.Equal(got, want) {
			t.Errorf("Uint(%x) = %x, not %s", x.n, got, x.want)
		}
		for _, tail := range [][]byte{nil, {0}, {0x7F}, {0x80}, {0xFF}, {1, 2, 3}} {
			if n, k := pack.GetUint(append(slices.Clone(want), tail...)); n != x.n || k != len(want) {
				t.Errorf("GetUint(%s, then %x) = %x, %d", x.want, tail, n, k)
			}
		}
		for k := range want {
			if n, got := pack.GetUint(want[:k]); n != 0 || got != 0 {
				t.Errorf("GetUint of the first %d bytes of %s = %x, %d", k, x.want, n, got)
			}
		}
	}
}

// P4.1: numbers near each power of two, against the library's.
func TestUintNearPowers(t *testing.T) {
	for bit := range 64 {
		for d := range uint64(200) {
			for _, n := range []uint64{1<<bit + d, 1<<bit - d} {
				want := binary.AppendUvarint(nil, n)
				if got := pack.Uint(n); !bytes.Equal(got, want) {
					t.Fatalf("Uint(%x) = %x, not %x", n, got, want)
				}
				if got, k := pack.GetUint(want); got != n || k != len(want) {
					t.Fatalf("GetUint(%x) = %x, %d", want, got, k)
				}
			}
		}
	}
}

// P4.1: bytes that no number begins.
func TestNoUint(t *testing.T) {
	for _, x := range []struct{ name, digits string }{
		{"nothing", ""},
		{"one byte, not whole", "80"},
		{"nine bytes, not whole", "ffffffffffffffffff"},
		{"ten bytes, not whole", "ffffffffffffffffffff"},
		{"0 in two bytes", "8000"},
		{"0 in three bytes", "808000"},
		{"0 in ten bytes", "80808080808080808000"},
		{"1 in two bytes", "8100"},
		{"7F in two bytes", "ff00"},
		{"80 in three bytes", "808100"},
		{"64 bits less one in ten bytes", "ffffffffffffffffff00"},
		{"65 bits", "80808080808080808002"},
		{"65 bits, all of them", "ffffffffffffffffff03"},
		{"66 bits", "80808080808080808004"},
		{"70 bits", "80808080808080808040"},
		{"70 bits, all of them", "ffffffffffffffffff7f"},
		{"eleven bytes", "8080808080808080808001"},
		{"eleven bytes, of 64 bits", "ffffffffffffffffff8100"},
		{"eleven bytes, all bits", "ffffffffffffffffffff01"},
		{"eleven bytes, 0", "8080808080808080808000"},
		{"many bytes", strings.Repeat("80", 1000) + "01"},
	} {
		b := unhex(t, x.digits)
		if n, k := pack.GetUint(b); n != 0 || k != 0 {
			t.Errorf("%s: GetUint = %x, %d", x.name, n, k)
		}
	}
	if n, k := pack.GetUint(nil); n != 0 || k != 0 {
		t.Errorf("GetUint(nil) = %x, %d", n, k)
	}
}

// P4.1: all texts of up to three bytes, and all of up to eleven at the bounds.
func TestGetUintOfAll(t *testing.T) {
	check := func(b []byte) {
		want, size := modelGetUint(b)
		if n, k := pack.GetUint(b); n != want || k != size {
			t.Fatalf("GetUint(%x) = %x, %d, not %x, %d", b, n, k, want, size)
		}
	}
	for n := range 4 {
		strew(everyByte(), n, check)
	}
	for n := 7; n <= 9; n++ {
		strew([]byte{0x00, 0x01, 0x02, 0x7F, 0x80, 0xFF}, 4, func(tail []byte) {
			for _, b := range []byte{0x80, 0x81, 0xFF} {
				check(append(bytes.Repeat([]byte{b}, n), tail...))
			}
		})
	}
}

// P4.1: rows that may be, with their bytes.
func TestPutAndGet(t *testing.T) {
	for _, x := range []struct {
		name string
		row  api.Row
		want string
	}{
		{"nothing", api.Row{}, "00"},
		{"an empty list", api.Row{Cells: []api.Cell{}}, "00"},
		{"nothing, wrapped", api.Row{Wrap: true}, "01"},
		{"a letter", api.Row{Cells: letters(1)}, "02 01 61 01 00"},
		{"a letter, wrapped", api.Row{Cells: letters(1), Wrap: true}, "03 01 61 01 00"},
		{"two alike", api.Row{Cells: letters(2)}, "02 02 61 01 00"},
		{"127 alike", api.Row{Cells: letters(127)}, "02 7f 61 01 00"},
		{"128 alike", api.Row{Cells: letters(128)}, "02 8001 61 01 00"},
		{"300 alike", api.Row{Cells: letters(300), Wrap: true}, "03 ac02 61 01 00"},
		{"a Blank", api.Row{Cells: []api.Cell{cell.Blank()}}, "02 01 20 01 00"},
		{"a Pad", api.Row{Cells: []api.Cell{cell.Pad()}}, "02 01 00 01 00"},
		{"two Pads", api.Row{Cells: []api.Cell{cell.Pad(), cell.Pad()}}, "02 02 00 01 00"},
		{"another sign", api.Row{Cells: []api.Cell{of('a', 1, 0), of('b', 1, 0)}}, "04 01 61 01 00 01 62 01 00"},
		{"another attribute", api.Row{Cells: []api.Cell{of('a', 1, 0), of('a', 1, 1)}}, "04 01 61 01 00 01 61 01 01"},
		{"the same again later", api.Row{Cells: join(letters(2), []api.Cell{of('b', 1, 0)}, letters(3))}, "06 02 61 01 00 01 62 01 00 03 61 01 00"},
		{"the greatest attribute", api.Row{Cells: []api.Cell{of('a', 1, 255)}}, "02 01 61 01 ff01"},
		{"an attribute of 127", api.Row{Cells: []api.Cell{of('a', 1, 127)}}, "02 01 61 01 7f"},
		{"an attribute of 128", api.Row{Cells: []api.Cell{of('a', 1, 128)}}, "02 01 61 01 8001"},
		{"the greatest sign", api.Row{Cells: []api.Cell{of(0x10FFFF, 1, 0)}}, "02 01 ffff43 01 00"},
		{"a sign of two bytes", api.Row{Cells: []api.Cell{of(0xE9, 1, 0)}}, "02 01 e901 01 00"},
		{"a wide sign", api.Row{Cells: wide(0)}, "04 01 ad9c01 02 00 01 00 00 00"},
		{"a wide sign with an attribute, wrapped", api.Row{Cells: wide(200), Wrap: true}, "05 01 ad9c01 02 c801 01 00 00 c801"},
		{"two wide signs", api.Row{Cells: join(wide(1), wide(1))}, "08 01 ad9c01 02 01 01 00 00 01 01 ad9c01 02 01 01 00 00 01"},
		{"a wide sign between", api.Row{Cells: join(letters(1), wide(0), letters(2))}, "08 01 61 01 00 01 ad9c01 02 00 01 00 00 00 02 61 01 00"},
		{"a Pad behind a wide sign", api.Row{Cells: join(wide(0), []api.Cell{cell.Pad()})}, "06 01 ad9c01 02 00 01 00 00 00 01 00 01 00"},
	} {
		want := unhex(t, x.want)
		if got, ok := pack.Put(x.row); !ok || !bytes.Equal(got, want) {
			t.Errorf("%s: Put = %x, %v, not %s", x.name, got, ok, x.want)
		}
		checkRow(t, x.name, x.row)
	}
}

// P4.1: long rows: each length up to 300, of alike cells and of others, narrow and wide, comes back; none does above.
func TestLongRows(t *testing.T) {
	for n := range 310 {
		checkRow(t, "alike", api.Row{Cells: letters(n), Wrap: n%3 == 0})
		checkRow(t, "mixed", api.Row{Cells: mixed(n), Wrap: n%2 == 0})
		checkRow(t, "wide", api.Row{Cells: slices.Repeat(wide(n%256), n/2), Wrap: n%2 == 0})
		checkRow(t, "Pads", api.Row{Cells: slices.Repeat([]api.Cell{cell.Pad()}, n)})
	}
	for _, n := range []int{0, 1, 299, 300} {
		if !pack.May(api.Row{Cells: letters(n)}) || !pack.May(api.Row{Cells: mixed(n)}) {
			t.Errorf("May of %d cells = false", n)
		}
	}
	for _, n := range []int{301, 302, 1000, 100000} {
		if pack.May(api.Row{Cells: letters(n)}) || pack.May(api.Row{Cells: mixed(n)}) {
			t.Errorf("May of %d cells = true", n)
		}
	}
	if pack.May(api.Row{Cells: slices.Repeat(wide(0), 151)}) || pack.May(api.Row{Cells: join(letters(1), slices.Repeat(wide(0), 150))}) {
		t.Error("May of more than 300 wide cells = true")
	}
}

// checkRow holds May, Put and Get for a row against the model.
func checkRow(t *testing.T, name string, r api.Row) {
	t.Helper()
	want, may := modelPut(r)
	if got := pack.May(r); got != may {
		t.Fatalf("%s: May(%v) = %v", name, r, got)
	}
	b, ok := pack.Put(r)
	if ok != may || !bytes.Equal(b, want) || !ok && b != nil {
		t.Fatalf("%s: Put(%v) = %x, %v, not %x", name, r, b, ok, want)
	}
	if !ok {
		return
	}
	for _, tail := range [][]byte{nil, {0}, {1}, {2, 1, 'a', 1, 0}, {0x80}, {0xFF, 0xFF}, b} {
		got, n, err := pack.Get(slices.Concat(b, tail))
		if err != api.OK || n != len(b) || !same(got, r) || !pack.Eq(got, r) {
			t.Fatalf("%s: Get(%x, then %x) = %v, %d, %d", name, b, tail, got, n, err)
		}
	}
	// Of long rows some beginnings will do.
	for k := 0; k < len(b); k += 1 + len(b)/40 {
		checkNone(t, name, b[:k])
	}
	checkNone(t, name, b[:len(b)-1])
}

// checkNone holds that b begins no row.
func checkNone(t *testing.T, name string, b []byte) {
	t.Helper()
	if got, n, err := pack.Get(b); err != api.ErrForm || n != 0 || got.Cells != nil || got.Wrap {
		t.Fatalf("%s: Get(%x) = %v, %d, %d", name, b, got, n, err)
	}
}

// P4.1: rows that may not be.
func TestMayNot(t *testing.T) {
	a := letters(1)
	for _, x := range []struct {
		name string
		list []api.Cell
	}{
		{"a first half alone", wide(3)[:1]},
		{"a first half at the end", join(a, wide(0), wide(0)[:1])},
		{"a second half alone", wide(3)[1:]},
		{"a second half in front", join(wide(0)[1:], a)},
		{"a second half behind a letter", join(a, wide(0)[1:])},
		{"a second half behind a Pad", join([]api.Cell{cell.Pad()}, wide(0)[1:])},
		{"two second halves", join(wide(0), wide(0)[1:])},
		{"two first halves", join(wide(0)[:1], wide(0))},
		{"a letter between the halves", join(wide(0)[:1], a, wide(0)[1:])},
		{"a Pad between the halves", []api.Cell{wide(0)[0], cell.Pad(), wide(0)[1]}},
		{"a letter for the second half", join(wide(0)[:1], a)},
		{"a Pad for the second half", []api.Cell{wide(0)[0], cell.Pad()}},
		{"a second half of another attribute", join(wide(0)[:1], wide(1)[1:])},
		{"a first half of another attribute", join(wide(255)[:1], wide(0)[1:])},
		{"halves the other way round", []api.Cell{wide(0)[1], wide(0)[0]}},
		{"the attributes of two signs changed over", []api.Cell{wide(1)[0], wide(2)[1], wide(2)[0], wide(1)[1]}},
		{"a sign in a second half", []api.Cell{wide(0)[0], of('a', 0, 0)}},
		{"an attribute below 0", []api.Cell{of('a', 1, -1)}},
		{"an attribute of 256", []api.Cell{of('a', 1, 256)}},
		{"halves of an attribute of 256", wide(256)},
		{"halves of an attribute below 0", wide(-1)},
		{"a Pad with an attribute", []api.Cell{of(0, 1, 1)}},
		{"a control", []api.Cell{of(7, 1, 0)}},
		{"an accent", []api.Cell{of(0x301, 0, 0)}},
		{"a letter as wide", []api.Cell{of('a', 2, 0), of(0, 0, 0)}},
		{"a wide sign as narrow", []api.Cell{of(0x4E2D, 1, 0)}},
		{"a width of 3", []api.Cell{of('a', 3, 0)}},
		{"a width below 0", []api.Cell{of('a', -1, 0)}},
		{"a sign below 0", []api.Cell{of(-1, 1, 0)}},
		{"a surrogate", []api.Cell{of(0xD800, 1, 0)}},
		{"a sign above all", []api.Cell{of(0x110000, 1, 0)}},
		{"huge numbers", []api.Cell{of(math.MaxInt32, math.MaxInt, math.MinInt)}},
		{"301 cells", letters(301)},
	} {
		for _, r := range []api.Row{{Cells: x.list}, {Cells: x.list, Wrap: true}, {Cells: join(a, x.list, a)}, {Cells: join(wide(5), x.list, wide(5))}} {
			if pack.May(r) {
				t.Errorf("%s: May(%v) = true", x.name, r)
			}
			if b, ok := pack.Put(r); ok || b != nil {
				t.Errorf("%s: Put(%v) = %x, %v", x.name, r, b, ok)
			}
		}
	}
}

// P4.1: all rows of up to five cells out of some, those that may be and those that may not.
func TestAllShortRows(t *testing.T) {
	from := []api.Cell{of('a', 1, 0), of('a', 1, 1), cell.Pad(), of(0x4E2D, 2, 0), of(0x4E2D, 2, 1), of(0, 0, 0), of(0, 0, 1), of(7, 1, 0)}
	places := make([]byte, len(from))
	for i := range places {
		places[i] = byte(i)
	}
	for n := range 6 {
		strew(places, n, func(text []byte) {
			var r api.Row
			for _, i := range text {
				r.Cells = append(r.Cells, from[i])
			}
			checkRow(t, "short", r)
			r.Wrap = true
			checkRow(t, "short, wrapped", r)
		})
	}
}

// P4.1: bytes that are not, or just not, those of a row.
func TestGetNone(t *testing.T) {
	for _, x := range []struct{ name, digits string }{
		{"nothing", ""},
		{"a count that is not whole", "80"},
		{"no run", "02"},
		{"a run without a sign", "02 01"},
		{"a run without a width", "02 01 61"},
		{"a run without an attribute", "02 01 61 01"},
		{"an attribute that is not whole", "02 01 61 01 80"},
		{"one run too few", "04 01 61 01 00"},
		{"one run too few, wrapped", "05 01 61 01 00"},
		{"a run of none", "02 00 61 01 00"},
		{"a run of none behind another", "04 01 61 01 00 00 62 01 00"},
		{"a run of none ahead of another", "04 00 61 01 00 01 62 01 00"},
		{"a run of none between alike ones", "06 01 61 01 00 00 62 01 00 01 61 01 00"},
		{"two runs that could be one", "04 01 61 01 00 01 61 01 00"},
		{"two runs of Pads that could be one", "04 01 00 01 00 01 00 01 00"},
		{"two runs that could be one, later", "06 01 62 01 00 01 61 01 00 02 61 01 00"},
		{"halves in one run each", "04 02 ad9c01 02 00 02 00 00 00"},
		{"a run of first halves", "04 02 ad9c01 02 00 01 00 00 00"},
		{"a run of second halves", "04 01 ad9c01 02 00 02 00 00 00"},
		{"a first half alone", "02 01 ad9c01 02 00"},
		{"a second half alone", "02 01 00 00 00"},
		{"a second half of another attribute", "04 01 ad9c01 02 01 01 00 00 00"},
		{"the count longer than need be", "8200 01 61 01 00"},
		{"the count of none longer than need be", "8000"},
		{"how many longer than need be", "02 8100 61 01 00"},
		{"the sign longer than need be", "02 01 e100 01 00"},
		{"the width longer than need be", "02 01 61 8100 00"},
		{"the attribute longer than need be", "02 01 61 01 8000"},
		{"a letter as wide", "04 01 61 02 00 01 00 00 00"},
		{"a letter as a second half", "04 01 ad9c01 02 00 01 61 00 00"},
		{"a wide sign as narrow", "02 01 ad9c01 01 00"},
		{"a width of 3", "02 01 61 03 00"},
		{"a width that is 1 in 32 bits", "02 01 61 8180808010 00"},
		{"a Pad with an attribute", "02 01 00 01 01"},
		{"a control", "02 01 07 01 00"},
		{"a surrogate", "02 01 80b003 01 00"},
		{"a sign above all", "02 01 808044 01 00"},
		{"a sign that is a letter in 32 bits", "02 01 e180808010 01 00"},
		{"a sign that is negative in 32 bits", "02 01 ffffffff0f 01 00"},
		{"the greatest number as a sign", "02 01 ffffffffffffffffff01 01 00"},
		{"an attribute of 256", "02 01 61 01 8002"},
		{"the greatest number as an attribute", "02 01 61 01 ffffffffffffffffff01"},
		{"301 alike", "02 ad02 61 01 00"},
		{"301 in two runs", "04 ac02 61 01 00 01 62 01 00"},
		{"600 in two runs", "04 ac02 61 01 00 ac02 62 01 00"},
		{"very many alike", "02 ffffffff07 61 01 00"},
		{"so many that their number is negative", "02 80808080808080808001 61 01 00"},
		{"as many as there are numbers", "02 ffffffffffffffffff01 61 01 00"},
		{"301 runs and no more", "da04"},
		{"as many runs as there are numbers", "ffffffffffffffffff01 01 61 01 00"},
		{"a count beyond 64 bits", "80808080808080808002 01 61 01 00"},
		{"a count of eleven bytes", "8080808080808080808001"},
		{"how many beyond 64 bits", "02 81808080808080808002 61 01 00"},
	} {
		b := unhex(t, x.digits)
		checkNone(t, x.name, b)
		checkNone(t, x.name+", with a byte behind", slices.Concat(b, []byte{0x80}))
		if _, _, err := modelGet(b); err != api.ErrForm {
			t.Errorf("%s: a row's bytes", x.name)
		}
	}
	checkNone(t, "nil", nil)
	checkNone(t, "301 runs", slices.Concat(unhex(t, "da04"), runsOf(301)))
	checkNone(t, "300 runs behind a count of 299", slices.Concat(unhex(t, "d804"), runsOf(299)))
	checkGet(t, slices.Concat(unhex(t, "d804"), runsOf(300)))
}

// runsOf are the bytes of so many runs of one cell.
func runsOf(n int) []byte {
	var out []byte
	for i := range n {
		out = append(out, 1, 'a'+byte(i%26), 1, 0)
	}
	return out
}

// checkGet holds Get for bytes against the model.
func checkGet(t *testing.T, b []byte) {
	t.Helper()
	want, size, no := modelGet(b)
	got, n, err := pack.Get(b)
	if err != no || n != size || !same(got, want) || err != api.OK && got.Cells != nil {
		t.Fatalf("Get(%x) = %v, %d, %d, not %v, %d, %d", b, got, n, err, want, size, no)
	}
}

// P4.1: all texts of up to two bytes, and all of up to six, and more, at the bounds.
func TestGetOfAll(t *testing.T) {
	for n := range 3 {
		strew(everyByte(), n, func(b []byte) { checkGet(t, b) })
	}
	for n := 3; n <= 6; n++ {
		strew([]byte{0, 1, 2, 3, 4, 'a', 0x80, 0x81}, n, func(b []byte) { checkGet(t, b) })
	}
	strew([]byte{0, 1, 2, 'a', 0x80}, 8, func(tail []byte) { checkGet(t, append([]byte{4}, tail...)) })
}

// P4.1: the bytes of rows with one byte changed, gone or more.
func TestGetOfSpoiled(t *testing.T) {
	for _, list := range [][]api.Cell{
		nil, letters(3), mixed(3), wide(0), wide(200), {cell.Pad()}, letters(300),
		join(letters(200), wide(1), wide(1), []api.Cell{cell.Pad(), of(0x10FFFF, 1, 255), cell.Blank()}),
		join(letters(2), []api.Cell{of('a', 1, 128), of('a', 1, 0)}, wide(128)),
		join(letters(127), mixed(3), letters(170)),
	} {
		b, ok := pack.Put(api.Row{Cells: list})
		if !ok {
			t.Fatalf("Put(%v) = false", list)
		}
		for i := range len(b) + 1 {
			for _, x := range everyByte() {
				checkGet(t, slices.Insert(slices.Clone(b), i, x))
				if i < len(b) {
					spoiled := slices.Clone(b)
					spoiled[i] = x
					checkGet(t, spoiled)
				}
			}
			if i < len(b) {
				checkGet(t, slices.Delete(slices.Clone(b), i, i+1))
			}
		}
	}
}

// P4.1: rows thrown by a die come back, and so do their bytes with some changed, if they are a row's.
func TestThrownRows(t *testing.T) {
	die := rand.New(rand.NewSource(4))
	for range 5000 {
		r := api.Row{Wrap: die.Intn(2) == 0}
		for range die.Intn(60) {
			a := die.Intn(3) * 127
			switch die.Intn(6) {
			case 0:
				r.Cells = append(r.Cells, wide(a)...)
			case 1:
				r.Cells = append(r.Cells, cell.Pad())
			case 2:
				r.Cells = append(r.Cells, slices.Repeat([]api.Cell{cell.Blank()}, die.Intn(140))...)
			default:
				r.Cells = append(r.Cells, of(rune('a'+die.Intn(2)), 1, a))
			}
		}
		checkRow(t, "thrown", api.Row{Cells: r.Cells[:min(len(r.Cells), 12)], Wrap: r.Wrap})
		b, ok := pack.Put(r)
		if want, may := modelPut(r); ok != may || !bytes.Equal(b, want) {
			t.Fatalf("Put(%v) = %x, %v, not %x", r, b, ok, want)
		}
		checkGet(t, b)
		for range die.Intn(4) {
			if len(b) > 0 {
				b[die.Intn(len(b))] ^= 1 << die.Intn(8)
			}
		}
		checkGet(t, b)
	}
}

// P4.1: Eq, row by row: those that may be and those that may not, nil like empty.
func TestEq(t *testing.T) {
	rows := []api.Row{
		{}, {Wrap: true},
		{Cells: letters(1)}, {Cells: letters(1), Wrap: true}, {Cells: letters(2)}, {Cells: letters(301)}, {Cells: letters(302)},
		{Cells: []api.Cell{of('b', 1, 0)}}, {Cells: []api.Cell{of('a', 1, 1)}}, {Cells: []api.Cell{of('a', 2, 0)}}, {Cells: []api.Cell{of('a', 0, 0)}},
		{Cells: []api.Cell{of('a', 1, 256)}}, {Cells: []api.Cell{of('a', 1, -1)}},
		{Cells: wide(0)}, {Cells: wide(0)[:1]}, {Cells: wide(0)[1:]}, {Cells: wide(0), Wrap: true}, {Cells: wide(1)},
		{Cells: []api.Cell{cell.Pad()}}, {Cells: []api.Cell{cell.Blank()}}, {Cells: []api.Cell{cell.Blank(), cell.Blank()}},
		{Cells: join(letters(1), wide(0))}, {Cells: join(wide(0), letters(1))},
	}
	for i, a := range rows {
		for k, b := range rows {
			other := api.Row{Cells: slices.Clone(b.Cells), Wrap: b.Wrap}
			if got := pack.Eq(a, other); got != (i == k) {
				t.Errorf("Eq(%v, %v) = %v", a, other, got)
			}
		}
	}
	for _, wrap := range []bool{false, true} {
		none, empty := api.Row{Wrap: wrap}, api.Row{Cells: []api.Cell{}, Wrap: wrap}
		if !pack.Eq(none, empty) || !pack.Eq(empty, none) {
			t.Error("Eq of nil and empty = false")
		}
		none.Wrap = !wrap
		if pack.Eq(none, empty) || pack.Eq(empty, none) {
			t.Error("Eq of one wrapped, one not = true")
		}
	}
}

// P0.3: what is handed in stays as it was, its spare room too. P0.5: the same again answers the same.
func TestHandedInStays(t *testing.T) {
	room := join(letters(2), wide(9), []api.Cell{cell.Pad(), of('z', 1, 3), of('y', 1, 3)})
	cells := slices.Clone(room)
	row := api.Row{Cells: room[:5], Wrap: true}
	want := unhex(t, "09 02 61 01 00 01 ad9c01 02 09 01 00 00 09 01 00 01 00")
	store := slices.Concat(want, []byte{1, 2, 3})
	bytesBefore := slices.Clone(store)
	for range 2 {
		if b, ok := pack.Put(row); !ok || !bytes.Equal(b, want) {
			t.Errorf("Put = %x, %v", b, ok)
		}
		if r, n, err := pack.Get(store[:len(want)]); err != api.OK || n != len(want) || !same(r, row) {
			t.Errorf("Get = %v, %d, %d", r, n, err)
		}
		if n, k := pack.GetUint(store[6:9]); n != 0x4E2D || k != 3 {
			t.Errorf("GetUint = %x, %d", n, k)
		}
		if !pack.May(row) || !pack.Eq(row, row) {
			t.Error("May or Eq = false")
		}
		if !slices.Equal(room, cells) || !bytes.Equal(store, bytesBefore) {
			t.Fatalf("what is handed in is changed: %v, %x", room, store)
		}
	}
}

// fill overwrites a list with its spare room.
func fill[T any](l []T, x T) {
	l = l[:cap(l)]
	for i := range l {
		l[i] = x
	}
}

// P0.3: who writes into what is told, spare room too, changes nothing of what was handed in or told elsewhere.
func TestToldIsNew(t *testing.T) {
	for _, cells := range [][]api.Cell{nil, letters(3), mixed(40), join(wide(2), letters(1), wide(2))} {
		row := api.Row{Cells: slices.Clone(cells)}
		put := func() []byte {
			b, _ := pack.Put(row)
			return b
		}
		checkNew(t, "Put", put, 0xEE)
		packed := put()
		kept := slices.Clone(packed)
		get := func() []api.Cell {
			r, _, _ := pack.Get(packed)
			return r.Cells
		}
		checkNew(t, "Get", get, of('!', 1, 99))
		if !slices.Equal(row.Cells, cells) || !bytes.Equal(packed, kept) {
			t.Errorf("what was handed in is changed: %v, %x", row.Cells, packed)
		}
		got := get()
		clear(packed)
		if !slices.Equal(got, cells) {
			t.Errorf("the row changes with its bytes: %v", got)
		}
	}
	for _, n := range []uint64{0, 1, 0x7F, 0x80, math.MaxUint64} {
		checkNew(t, "Uint", func() []byte { return pack.Uint(n) }, 0xEE)
	}
}

// checkNew holds that what ask answers stays as it is when another answer of it is overwritten.
func checkNew[T comparable](t *testing.T, name string, ask func() []T, x T) {
	t.Helper()
	first, second := ask(), ask()
	kept := slices.Clone(second)
	// second is looked at ahead of third, which could put right what is shared.
	fill(first, x)
	if !slices.Equal(second, kept) {
		t.Errorf("%s: two answers share memory: %v", name, second)
	}
	if third := ask(); !slices.Equal(third, kept) {
		t.Errorf("%s: %v, then %v", name, kept, third)
	}
}
