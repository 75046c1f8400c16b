package base_test

import (
	"encoding/base64"
	"math/rand"
	"strings"
	"sync"
	"testing"

	"rotulus/base"
)

// strew calls f with all texts of n bytes out of these.
func strew(bytes string, n int, f func(string)) {
	text := make([]byte, n)
	var fill func(int)
	fill = func(i int) {
		if i == n {
			f(string(text))
			return
		}
		for _, b := range []byte(bytes) {
			text[i] = b
			fill(i + 1)
		}
	}
	fill(0)
}

// draw is a text of n bytes: any, or few of them again and again.
func draw(from *rand.Rand, n int) string {
	few := from.Intn(3) == 0
	out := make([]byte, n)
	for i := range out {
		out[i] = byte(from.Intn(256))
		if few {
			out[i] = "\x00\x01\x10=A\x7f\x80\xfb\xff"[from.Intn(9)]
		}
	}
	return string(out)
}

// spoil turns, leaves out or doubles one sign of s, or puts one in.
func spoil(from *rand.Rand, s string) string {
	const others = "=-_ \n\x00\x80\xff"
	at := from.Intn(len(s))
	other := sign(from.Intn(64))
	if from.Intn(3) == 0 {
		other = others[from.Intn(len(others))]
	}
	if from.Intn(2) == 0 {
		at = len(s) - 1 - from.Intn(min(4, len(s)))
	}
	switch from.Intn(4) {
	case 0:
		return s[:at] + string([]byte{other}) + s[at+1:]
	case 1:
		return s[:at] + s[at+1:]
	case 2:
		return s[:at+1] + s[at:]
	}
	return s[:at] + string([]byte{other}) + s[at:]
}

// RFC 4648, which the chapter names: the model tells what the library's reading of it tells.
func TestModel(t *testing.T) {
	from := rand.New(rand.NewSource(13))
	for n := range 300 {
		s := draw(from, n)
		told := base64.StdEncoding.EncodeToString([]byte(s))
		if got := modelPut(s); got != told {
			t.Fatalf("the model tells %q as %q, not %q", s, got, told)
		}
		if got, ok := modelGet(told); got != s || !ok {
			t.Fatalf("the model reads %q as %q, %v", told, got, ok)
		}
		if told == "" {
			continue
		}
		for range 20 {
			spoiled := spoil(from, told)
			want, err := base64.StdEncoding.Strict().DecodeString(spoiled)
			// The library leaves out ends of lines, which the chapter does not.
			wantOk := err == nil && !strings.Contains(spoiled, "\n")
			if got, ok := modelGet(spoiled); ok != wantOk || ok && got != string(want) {
				t.Fatalf("the model reads %q as %q, %v, not %q, %v", spoiled, got, ok, want, wantOk)
			}
		}
	}
}

// P13.1: what Put tells, Get tells again: drawn texts of every length.
func TestComesBack(t *testing.T) {
	from := rand.New(rand.NewSource(1))
	for n := range 500 {
		for range 20 {
			s := draw(from, n)
			put(t, s, modelPut(s))
		}
	}
}

// P13.1: all texts of up to two bytes, and all of three and more out of a few.
func TestAllShortTexts(t *testing.T) {
	for n := range 3 {
		strew(every(), n, func(s string) { put(t, s, modelPut(s)) })
	}
	strew("\x00\x01\x02\x03\x04\x0f\x10\x3f\x40\x7f\x80\xa5\xc0\xf0\xfb\xfc\xff", 3, func(s string) { put(t, s, modelPut(s)) })
	strew("\x00\x5a\x80\xff", 6, func(s string) { put(t, s, modelPut(s)) })
}

// P13.1: all texts of up to eight signs out of a few, of which most are no such texts.
func TestAllShortSigns(t *testing.T) {
	strew("ABEQZgw09+/=-_ \n\x00\x80\xff", 4, func(s string) { get(t, s) })
	for n := range 8 {
		strew("AQg/=-", n, func(s string) { get(t, s) })
	}
	strew("AQZ=", 8, func(s string) { get(t, s) })
}

// P13.1: of all texts of four signs and = just those are any that are told of some text.
func TestAllTextsOfFour(t *testing.T) {
	all := sixty() + "="
	var found [65]int
	var group sync.WaitGroup
	for i, first := range []byte(all) {
		group.Go(func() {
			strew(all, 3, func(rest string) {
				s := string([]byte{first}) + rest
				got, ok := base.Get(s)
				if !ok && got == "" {
					return
				}
				if base.Put(got) != s {
					t.Errorf("P13.1: Get(%q) = %q, %v", s, got, ok)
				}
				found[i]++
			})
		})
	}
	group.Wait()
	sum := 0
	for _, n := range found {
		sum += n
	}
	if sum != 1<<8+1<<16+1<<24 {
		t.Errorf("P13.1: %d texts of one, two and three bytes", sum)
	}
}

// P13.1: drawn texts of which one sign is turned, left out, doubled or put in, once or more.
func TestSpoiledTexts(t *testing.T) {
	from := rand.New(rand.NewSource(2))
	for range 60000 {
		s := modelPut(draw(from, 1+from.Intn(40)))
		for range 1 + from.Intn(3) {
			if s != "" {
				s = spoil(from, s)
			}
			get(t, s)
		}
	}
}

// P0.5: what was asked ahead changes no answer.
func TestAskedAgain(t *testing.T) {
	from := rand.New(rand.NewSource(3))
	asked := make([]string, 200)
	for i := range asked {
		asked[i] = modelPut(draw(from, 1+i))
		if i%2 == 1 {
			asked[i] = spoil(from, asked[i])
		}
	}
	for range 2000 {
		s := asked[from.Intn(len(asked))]
		get(t, s)
		if got, want := base.Put(s), modelPut(s); got != want {
			t.Fatalf("P13.1: Put(%.80q) = %.120q, not %.120q", s, got, want)
		}
	}
}
