package lex

import (
	"strings"
	"unicode/utf8"

	"platen/api"
)

// What is looked at where no character stands.
const (
	ended  = -1 // the text ends
	broken = -2 // a byte that belongs to no complete character
)

// place is where a reader stands in its text.
type place struct {
	at int
}

// fail goes to the place that an error is told with.
func (p *place) fail(at int, code api.Errno) api.Errno {
	p.at = at
	return code
}

// reader goes through a text. With an error, its place is that of the error.
type reader struct {
	place
	text string
}

// look returns the next character and how many bytes it takes.
func (r *reader) look() (int, int) {
	if r.at >= len(r.text) {
		return ended, 0
	}
	c, size := utf8.DecodeRuneInString(r.text[r.at:])
	if c == utf8.RuneError && size <= 1 {
		return broken, 0
	}
	return int(c), size
}

// follows reports whether text stands next.
func (r *reader) follows(text string) bool {
	return strings.HasPrefix(r.text[r.at:], text)
}

// digitBehind reports whether a digit stands behind the next so many bytes.
func (r *reader) digitBehind(count int) bool {
	behind := r.at + count
	return behind < len(r.text) && digit(int(r.text[behind]))
}

// digit reports whether c is a digit from 0 to 9.
func digit(c int) bool {
	return c >= '0' && c <= '9'
}
