package regex

import (
	"strings"

	"platen/api"
)

// point is a point of a class, or two that stand at one place: the code units
// of a character that has two. Behind a - the first of them ends a range, and
// ahead of a - the second of them begins one.
type point struct {
	at     int
	first  int
	second int
}

// class reads what stands behind a [.
func (r *reader) class() {
	r.take('^')
	for !r.take(']') {
		p := r.point()
		for r.ranges() {
			end := r.point()
			checkRange(p, end)
			if end.first == end.second {
				break
			}
			p = end
		}
	}
}

// ranges reads a - that makes a range of the point ahead of it.
func (r *reader) ranges() bool {
	return !strings.HasPrefix(r.body[r.at:], "-]") && r.take('-')
}

// checkRange throws if there is no range from one point to the other.
func checkRange(from, to point) {
	if from.second == set || to.first == set || from.second > to.first {
		throw(from.at, api.ErrRegexRange)
	}
}

// point reads a point.
func (r *reader) point() point {
	at := r.at
	if r.take('\\') {
		c := r.pointEscape()
		return point{at: at, first: c, second: c}
	}
	c := r.character(anything)
	if c > 0xFFFF && !r.unicode {
		c -= 0x10000
		return point{at: at, first: 0xD800 | c>>10, second: 0xDC00 | c&0x3FF}
	}
	return point{at: at, first: c, second: c}
}

// pointEscape reads a point behind its \.
func (r *reader) pointEscape() int {
	switch {
	case r.take('b'):
		return 8
	case r.unicode && r.take('-'):
		return '-'
	}
	return r.escape()
}
