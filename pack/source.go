package pack

import (
	"rotulus/api"
)

// source hands out the numbers at the beginning of bytes, one behind the other.
type source struct {
	left   []byte
	broken bool // a number was not there, or not one that may be
}

// number takes the next number, which is most at the most.
func (s *source) number(most int) int {
	n, bytes := GetUint(s.left)
	// Held against most before it becomes an int, which not every number has room in.
	if bytes == 0 || n > uint64(most) {
		s.broken = true
		return 0
	}
	s.left = s.left[bytes:]
	return int(n)
}

// run takes the next run, which has room for so many cells.
func (s *source) run(room int) run {
	many := s.number(room)
	if many == 0 {
		s.broken = true
	}
	sign := s.number(mostSign)
	width := s.number(mostWidth)
	attr := s.number(mostAttr)
	return run{many, api.Cell{R: rune(sign), W: width, A: attr}}
}
