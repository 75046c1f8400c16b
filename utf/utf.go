// Package utf: signs out of bytes: see doc/01-utf.md.
package utf

import (
	"rotulus/api"
)

// Reader makes signs of bytes that come one by one. Its zero value is ready: nothing waits.
type Reader struct {
	sign      rune // the bits of the sign that waits, as far as they have come
	waits     int  // how many bytes wait
	missing   int  // how many are still to come
	low, high byte // what waits goes on with a byte from low to high
}

// Put tells the signs that are whole with b: none, one or two.
func (r *Reader) Put(b byte) []rune {
	if r == nil {
		return nil
	}
	return r.read(nil, b)
}

// End tells what waits as one Bad; nothing waits then.
func (r *Reader) End() []rune {
	if r == nil {
		return nil
	}
	return r.breakOff(nil)
}

// Waits tells how many bytes wait.
func (r *Reader) Waits() int {
	if r == nil {
		return 0
	}
	return r.waits
}

// All tells all signs of s.
func All(s string) []rune {
	var r Reader
	var out []rune
	for i := range len(s) {
		out = r.read(out, s[i])
	}
	return r.breakOff(out)
}

// Write tells rs as UTF-8, one that may not be as Bad.
func Write(rs []rune) string {
	// The language's own conversion puts FFFD in just these places.
	return string(rs)
}

// read appends the signs that are whole with b.
func (r *Reader) read(out []rune, b byte) []rune {
	if r.waits > 0 && r.low <= b && b <= r.high {
		return r.goOn(out, b)
	}
	return r.begin(r.breakOff(out), b)
}

// breakOff appends one Bad for what waits, if anything does.
func (r *Reader) breakOff(out []rune) []rune {
	if r.waits == 0 {
		return out
	}
	*r = Reader{}
	return append(out, api.Bad)
}

// begin looks at b while nothing waits.
func (r *Reader) begin(out []rune, b byte) []rune {
	if b < 0x80 {
		return append(out, rune(b))
	}
	missing, low, high := follow(b)
	if missing == 0 {
		return append(out, api.Bad)
	}
	// The more bytes follow, the fewer bits of the first one are the sign's: 5, 4, 3.
	bits := rune(b) & (0x3F >> missing)
	*r = Reader{sign: bits, waits: 1, missing: missing, low: low, high: high}
	return out
}

// goOn takes b as the next byte of what waits.
func (r *Reader) goOn(out []rune, b byte) []rune {
	sign := r.sign<<6 | rune(b&0x3F)
	if r.missing == 1 {
		*r = Reader{}
		return append(out, sign)
	}
	// Only a second byte's room hangs on the first one.
	*r = Reader{sign: sign, waits: r.waits + 1, missing: r.missing - 1, low: 0x80, high: 0xBF}
	return out
}

// follow tells how many bytes follow the first byte b (of 80 or more), and from where to where the second one lies; 0: b can't begin a sequence.
func follow(b byte) (missing int, low, high byte) {
	switch {
	case b < 0xC2: // a later byte, or longer than need be
		return 0, 0, 0
	case b < 0xE0:
		return 1, 0x80, 0xBF
	case b == 0xE0: // below A0 it would be longer than need be
		return 2, 0xA0, 0xBF
	case b == 0xED: // from A0 on it would be D800 to DFFF
		return 2, 0x80, 0x9F
	case b < 0xF0:
		return 2, 0x80, 0xBF
	case b == 0xF0: // below 90 it would be longer than need be
		return 3, 0x90, 0xBF
	case b < 0xF4:
		return 3, 0x80, 0xBF
	case b == 0xF4: // from 90 on it would be above 10FFFF
		return 3, 0x80, 0x8F
	default: // above 10FFFF
		return 0, 0, 0
	}
}
