package base_test

import (
	"strconv"
	"strings"
)

// The model writes bits out as texts of 0 and 1, the whole text at once, and takes a text back just if it is what putting tells; it and the program share no code.

// digits are the lowest n bits of x.
func digits(x, n int) string {
	return strconv.FormatInt(int64(x)|1<<n, 2)[1:]
}

// number is what the bits stand for.
func number(bits string) int {
	n, _ := strconv.ParseInt(bits, 2, 64)
	return int(n)
}

// sign is the one of the sixty-four that stands for n.
func sign(n int) byte {
	switch {
	case n < 26:
		return byte('A' + n)
	case n < 52:
		return byte('a' + n - 26)
	case n < 62:
		return byte('0' + n - 52)
	case n == 62:
		return '+'
	}
	return '/'
}

// sixty are the sixty-four signs in their order.
func sixty() string {
	var out strings.Builder
	for n := range 64 {
		out.WriteByte(sign(n))
	}
	return out.String()
}

// modelPut is Put.
func modelPut(s string) string {
	var bits, out strings.Builder
	for i := range len(s) {
		bits.WriteString(digits(int(s[i]), 8))
	}
	for bits.Len()%6 != 0 {
		bits.WriteString("00")
	}
	for all := bits.String(); all != ""; all = all[6:] {
		out.WriteByte(sign(number(all[:6])))
	}
	for out.Len()%4 != 0 {
		out.WriteByte('=')
	}
	return out.String()
}

// modelGet is Get: just one text has the bits that the signs of s have.
func modelGet(s string) (string, bool) {
	var bits, out strings.Builder
	for i := range len(s) {
		for n := range 64 {
			if sign(n) == s[i] {
				bits.WriteString(digits(n, 6))
			}
		}
	}
	for all := bits.String(); len(all) >= 8; all = all[8:] {
		out.WriteByte(byte(number(all[:8])))
	}
	if modelPut(out.String()) != s {
		return "", false
	}
	return out.String(), true
}
