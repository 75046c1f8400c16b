package esc

import (
	"testing"

	"rotulus/api"
)

// put puts all signs of s into p.
func put(p *Parser, s string) {
	for _, r := range s {
		p.Put(r)
	}
}

// P7.1: of an OSC that is too long nothing is kept, which no answer would show.
func TestNothingKeptOfTooLongText(t *testing.T) {
	var p Parser
	put(&p, "\x1b]")
	for n := range 3 * api.MaxOsc {
		p.Put('x')
		if cap(p.text) > 3*api.MaxOsc {
			t.Fatalf("%d signs: there is room for %d", n+1, cap(p.text))
		}
	}
	if p.text != nil {
		t.Errorf("%d bytes are kept", cap(p.text))
	}
}

// P7.1: at rest and behind an escape nothing is kept of what was.
func TestNothingKeptAtRest(t *testing.T) {
	for _, s := range []string{
		"a", "\x1bc", "\x1b[1;2m", "\x1b[1;2?m", "\x1b[1;2\r", "\x1b[1;2\x1b", "\x1b]ab\x07", "\x1b]ab\x1b\\", "\x1b]ab\x1bc", "\x1b]ab\x1b\x1b",
	} {
		var p Parser
		put(&p, s)
		if p.mute || p.many != 0 || p.args != [api.MaxArgs]int{} || p.text != nil {
			t.Errorf("%q: %+v is kept", s, p)
		}
	}
}
