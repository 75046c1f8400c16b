package base_test

import (
	"strings"
	"testing"

	"rotulus/base"
)

// put holds Put of a text against what is wanted, and that Get tells the text again.
func put(t *testing.T, s, want string) {
	t.Helper()
	if got := base.Put(s); got != want {
		t.Fatalf("P13.1: Put(%.80q) = %.120q, not %.120q", s, got, want)
	}
	if got, ok := base.Get(want); got != s || !ok {
		t.Fatalf("P13.1: Get(%.120q) = %.80q, %v, not %.80q, true", want, got, ok, s)
	}
}

// none holds that Get of s tells that there is nothing.
func none(t *testing.T, s string) {
	t.Helper()
	if got, ok := base.Get(s); got != "" || ok {
		t.Fatalf("P13.1: Get(%.120q) = %.80q, %v, not \"\", false", s, got, ok)
	}
}

// get holds Get of s against the model.
func get(t *testing.T, s string) {
	t.Helper()
	want, wantOk := modelGet(s)
	if got, ok := base.Get(s); got != want || ok != wantOk {
		t.Fatalf("P13.1: Get(%.120q) = %.80q, %v, not %.80q, %v", s, got, ok, want, wantOk)
	}
}

// every is all 256 bytes in a row.
func every() string {
	out := make([]byte, 256)
	for i := range out {
		out[i] = byte(i)
	}
	return string(out)
}

// P13.1: texts of few bytes, and what they are told as, written out.
func TestTextsWrittenOut(t *testing.T) {
	for _, x := range []struct{ text, want string }{
		{"", ""},
		{"f", "Zg=="},
		{"fo", "Zm8="},
		{"foo", "Zm9v"},
		{"foob", "Zm9vYg=="},
		{"fooba", "Zm9vYmE="},
		{"foobar", "Zm9vYmFy"},
		{"a", "YQ=="},
		{"ab", "YWI="},
		{"abc", "YWJj"},
		{"abcd", "YWJjZA=="},
		{"rotulus", "cm90dWx1cw=="},
		{"gr\u00fc\u00dfe", "Z3LDvMOfZQ=="},
		{"\u4e2d", "5Lit"},
		{"\n", "Cg=="},
		{" \t\r\n", "IAkNCg=="},
		{"=", "PQ=="},
		{"Zg==", "Wmc9PQ=="},

		{"\x00", "AA=="},
		{"\x00\x00", "AAA="},
		{"\x00\x00\x00", "AAAA"},
		{"\x00\x00\x00\x00", "AAAAAA=="},
		{"\xff", "/w=="},
		{"\xff\xff", "//8="},
		{"\xff\xff\xff", "////"},
		{"\xff\xff\xff\xff", "/////w=="},
		{"\xfb\xef\xbe", "++++"},
		{"\xfb\xef", "++8="},
		{"\xfb", "+w=="},
		{"\x00\x10\x83\x10\x51\x87\x20\x92\x8b", "ABCDEFGHIJKL"},

		// Bytes that are no signs go as they are.
		{"\x80", "gA=="},
		{"\xc3\x28", "wyg="},
		{"\xe2\x82", "4oI="},
		{"\xed\xa0\x80", "7aCA"},
		{"\xf5\xfe\xff\xc0", "9f7/wA=="},
		{"a\xffb", "Yf9i"},
	} {
		put(t, x.text, x.want)
		if got := modelPut(x.text); got != x.want {
			t.Errorf("the model tells %q as %q, not %q", x.text, got, x.want)
		}
	}
}

// P13.1: every byte alone, and with others at both sides.
func TestEveryByte(t *testing.T) {
	all := sixty()
	for b := range 256 {
		one := string([]byte{byte(b)})
		put(t, one, string([]byte{all[b/4], all[b%4*16], '=', '='}))
		put(t, "\x00"+one, string([]byte{'A', all[b/16], all[b%16*4], '='}))
		put(t, "\x00\x00"+one, string([]byte{'A', 'A', all[b/64], all[b%64]}))
		for _, s := range []string{one + "\x00", one + "\x00\x00", "\xff" + one + "\xff", "abc" + one, one + one + one + one} {
			put(t, s, modelPut(s))
		}
	}
}

// P13.1: all 256 bytes in a row.
func TestAllBytesInARow(t *testing.T) {
	put(t, every(), ""+
		"AAECAwQFBgcICQoLDA0ODxAREhMUFRYXGBkaGxwdHh8gISIjJCUmJygpKissLS4vMDEyMzQ1Njc4OTo7PD0+P0"+
		"BBQkNERUZHSElKS0xNTk9QUVJTVFVWV1hZWltcXV5fYGFiY2RlZmdoaWprbG1ub3BxcnN0dXZ3eHl6e3x9fn+A"+
		"gYKDhIWGh4iJiouMjY6PkJGSk5SVlpeYmZqbnJ2en6ChoqOkpaanqKmqq6ytrq+wsbKztLW2t7i5uru8vb6/wM"+
		"HCw8TFxsfIycrLzM3Oz9DR0tPU1dbX2Nna29zd3t/g4eLj5OXm5+jp6uvs7e7v8PHy8/T19vf4+fr7/P3+/w==")
	for from := range 4 {
		for to := from; to <= 256; to++ {
			s := every()[from:to]
			put(t, s, modelPut(s))
		}
	}
}

// P13.1: the sixty-four signs, each for its six bits at each of the four places.
func TestEverySign(t *testing.T) {
	const want = "ABCDEFGHIJKLMNOPQRSTUVWXYZabcdefghijklmnopqrstuvwxyz0123456789+/"
	if sixty() != want {
		t.Fatalf("the model has other signs: %s", sixty())
	}
	for n := range 64 {
		for place, bits := range []int{n << 18, n << 12, n << 6, n} {
			s := string([]byte{byte(bits >> 16), byte(bits >> 8), byte(bits)})
			put(t, s, "AAAA"[:place]+want[n:n+1]+"AAAA"[place+1:])
		}
	}
}

// P13.1: four signs for each three bytes begun; at the end, and nowhere else, as many = as are missing.
func TestLengths(t *testing.T) {
	for n := range 700 {
		for _, s := range []string{strings.Repeat("\x00", n), strings.Repeat("\xff", n), strings.Repeat("=", n)} {
			told := base.Put(s)
			groups, missing := n/3, 0
			if n%3 > 0 {
				groups, missing = n/3+1, 3-n%3
			}
			if len(told) != 4*groups {
				t.Errorf("P13.1: %d bytes: %d signs", n, len(told))
			}
			if at := strings.Index(told+"=", "="); told[at:] != "=="[:missing] {
				t.Errorf("P13.1: %d bytes: %q at the end, %d missing", n, told[at:], missing)
			}
		}
	}
}

// P13.1: a length that is no multiple of four.
func TestWrongLengths(t *testing.T) {
	for _, s := range []string{
		"Z", "Zg", "Zg=", "Zm8", "Zm9vY", "Zm9vYg", "Zm9vYg=", "Zm9vYmE", "Zm9vYmF", "Zm9vZ",
		"A", "AA", "AAA", "AAAAA", "AAAAAA", "AAAAAAA", "AA=", "AAAAAA=", "Zg===", "Zm8==", "Zm9v=", "Zm9v==", "Zm9v===",
	} {
		none(t, s)
	}
	for n := range 400 {
		if n%4 != 0 {
			none(t, strings.Repeat("A", n))
			none(t, strings.Repeat("/", n))
			none(t, strings.Repeat("A", n-1)+"=")
			none(t, strings.Repeat("A", max(n-2, 0))+"==")
		}
	}
}

// P13.1: = in front, in the middle, too often, or with a sign behind it.
func TestWrongFills(t *testing.T) {
	for _, s := range []string{
		"=", "==", "===", "====", "=====", "========",
		"=Zg=", "=Zm9", "==Zg", "===Z", "=AAA", "=AA=", "=A==",
		"=AAAAAAA", "==AAAAAA", "====AAAA", "Zm9v====", "Zm9vZ===", "Zm9v=Zm8",
		"Z===", "A===", "AAAAA===", "Zg=a", "Z=g=", "Z==g", "A=A=", "A=AA", "AA=A", "A==A",
		"Zg==Zg==", "Zm8=Zm8=", "Zm8=Zm9v", "Zg==Zm9v", "AA==AAAA", "AAA=AAAA", "AAA=AAA=", "AAAA=AAA", "AAAA=AA=",
	} {
		none(t, s)
	}
	for n := range 40 {
		whole := strings.Repeat("AAAA", n)
		for _, s := range []string{"A===", "====", "=AAA", "A=AA", "AA=A", "=AA=", "A=A=", "=A=="} {
			none(t, whole+s)
			none(t, s+whole)
			none(t, whole+s+whole)
		}
		if n > 0 {
			none(t, "AA=="+whole)
			none(t, "AAA="+whole)
		}
	}
}

// P13.1: a sign that is none of the sixty-four, at each place, first of them those that other sets of signs have.
func TestWrongSigns(t *testing.T) {
	for _, s := range []string{"Zm9-", "Zm9_", "Zm9 ", "Zm9\n", "Zm9\r", "Zm9\x00", "Zm\xff9", "Zm9\x80", "Z\u00e9", "Zm9v\r\n\r\n", "Zg==\n", "Zg=\n", "Zg\n\n", "\nZg=", "Zm9v\nZg="} {
		none(t, s)
	}
	for _, whole := range []string{"Zg==", "Zm8=", "Zm9v", "Zm9vZm9vZg==", "Zm9vZm9vZm8=", "Zm9vZm9vZm9v"} {
		for place := range len(whole) {
			for b := range 256 {
				turned := whole[:place] + string([]byte{byte(b)}) + whole[place+1:]
				if !strings.Contains(sixty()+"=", string([]byte{byte(b)})) {
					none(t, turned)
				}
				get(t, turned)
				get(t, whole[:place]+string([]byte{byte(b)})+whole[place:])
			}
		}
	}
}

// P13.1: bits that mean nothing are 0: the last sign ahead of = is each of the sixty-four.
func TestBitsThatMeanNothing(t *testing.T) {
	all := sixty()
	for _, front := range []string{"", "Zm9v", "////", strings.Repeat("Zm9v", 100)} {
		for first := range 64 {
			for n := range 64 {
				two := front + string([]byte{all[first], all[n], '=', '='})
				one := front + string([]byte{all[63-first], all[first], all[n], '='})
				if n%16 != 0 {
					none(t, two)
				} else if got, ok := base.Get(two); !ok || base.Put(got) != two {
					t.Fatalf("P13.1: Get(%.120q) = %.80q, %v", two, got, ok)
				}
				if n%4 != 0 {
					none(t, one)
				} else if got, ok := base.Get(one); !ok || base.Put(got) != one {
					t.Fatalf("P13.1: Get(%.120q) = %.80q, %v", one, got, ok)
				}
			}
		}
	}
}

// P0.1, P13.1: long texts, whole and spoiled at the far end.
func TestLongTexts(t *testing.T) {
	for n := 3 << 20; n < 3<<20+3; n++ {
		s := strings.Repeat(every(), n/256+1)[:n]
		told := base.Put(s)
		if len(told) != (n+2)/3*4 {
			t.Errorf("P13.1: %d bytes: %d signs", n, len(told))
		}
		if got, ok := base.Get(told); got != s || !ok {
			t.Errorf("P13.1: %d bytes don't come back: %v", n, ok)
		}
		none(t, told+"A")
		none(t, told+"====")
		none(t, told[:len(told)-4]+"====")
		none(t, told[:len(told)-4]+"AA-A")
		none(t, "-"+told[1:])
	}
}
