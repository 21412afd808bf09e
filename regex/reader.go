package regex

import (
	"strings"
	"unicode/utf8"

	"platen/api"
	"platen/uni"
)

// ended is what is peeked at behind the body.
const ended = -1

// reader reads a body, and throws its first error.
type reader struct {
	body       string
	at         int
	unicode    bool
	groups     int
	names      map[string]int // the groups' names, with the groups' numbers
	references []func()       // looks after the references, once all groups are known
}

// refuse throws that what stands here is not permitted.
func (r *reader) refuse() {
	throw(r.at, api.ErrRegexForm)
}

// peek is the next byte.
func (r *reader) peek() int {
	if r.at >= len(r.body) {
		return ended
	}
	return int(r.body[r.at])
}

// take reads the byte c if it is the next one.
func (r *reader) take(c byte) bool {
	if r.peek() != int(c) {
		return false
	}
	r.at++
	return true
}

// expect reads the byte c.
func (r *reader) expect(c byte) {
	if !r.take(c) {
		r.refuse()
	}
}

// character reads a character for which permitted holds.
func (r *reader) character(permitted func(c int) bool) int {
	c, size := utf8.DecodeRuneInString(r.body[r.at:])
	wrong := c == utf8.RuneError && size <= 1
	if wrong || uni.Ends(int(c)) || !permitted(int(c)) {
		r.refuse()
	}
	r.at += size
	return int(c)
}

// pattern reads alternatives.
func (r *reader) pattern() {
	r.alternative()
	for r.take('|') {
		r.alternative()
	}
}

// alternative reads terms.
func (r *reader) alternative() {
	for {
		switch r.peek() {
		case ended, '|', ')':
			return
		}
		if r.piece() {
			r.quantifier()
		}
	}
}

// piece reads an assertion or an atom, and reports whether it is an atom.
func (r *reader) piece() bool {
	switch r.peek() {
	case '^', '$':
		r.at++
		return false
	case '(':
		r.at++
		return r.group()
	case '[':
		r.at++
		r.class()
	case '\\':
		return r.escaped()
	case '*', '+', '?', ']', '{', '}':
		r.refuse()
	default:
		r.character(anything)
	}
	return true
}

// anything is permitted.
func anything(int) bool {
	return true
}

// group reads what stands behind a (, and reports whether it is an atom.
func (r *reader) group() bool {
	atom := true
	if r.take('?') {
		atom = r.mark()
	} else {
		r.groups++
	}
	r.pattern()
	r.expect(')')
	return atom
}

// mark reads what tells behind a (? which kind of group it is, and reports
// whether that kind is an atom.
func (r *reader) mark() bool {
	switch r.peek() {
	case ended:
		r.refuse()
	case ':':
		r.at++
	case '=', '!':
		r.at++
		return false
	case '<':
		r.at++
		if r.take('=') || r.take('!') {
			return false
		}
		r.declare()
	default:
		throw(r.at-1, api.ErrRegexForm)
	}
	return true
}

// declare reads the name of a group.
func (r *reader) declare() {
	first := r.at
	name := r.name()
	if r.names[name] != 0 {
		throw(first, api.ErrRegexName)
	}
	r.groups++
	r.names[name] = r.groups
}

// name reads a name and the > behind it.
func (r *reader) name() string {
	first := r.at
	r.character(uni.Start)
	for r.peek() != '>' {
		r.character(uni.Part)
	}
	name := r.body[first:r.at]
	r.at++
	return name
}

// quantifier reads a quantifier if one stands here.
func (r *reader) quantifier() {
	switch r.peek() {
	case '*', '+', '?':
		r.at++
	case '{':
		r.repeat()
	default:
		return
	}
	r.take('?')
}

// repeat reads a quantifier in braces.
func (r *reader) repeat() {
	place := r.at
	r.at++
	least := r.number()
	most := least
	if r.take(',') && r.peek() != '}' {
		most = r.number()
	}
	r.expect('}')
	if less(most, least) {
		throw(place, api.ErrRegexRange)
	}
}

// number reads digits, and returns them without leading zeros.
func (r *reader) number() string {
	first := r.at
	for digit(r.peek()) {
		r.at++
	}
	if r.at == first {
		r.refuse()
	}
	return strings.TrimLeft(r.body[first:r.at], "0")
}

// less reports whether the number a is less than b. They may be too great for
// any kind of integers.
func less(a, b string) bool {
	if len(a) != len(b) {
		return len(a) < len(b)
	}
	return a < b
}
