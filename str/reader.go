package str

import (
	"unicode/utf8"

	"platen/uni"
)

const (
	ended   = -1       // what is peeked at behind the text
	nothing = -1       // what an escaped line terminator denotes
	last    = 0x10FFFF // the greatest code point
)

// reader reads the parts of a literal. When a part is not permitted, the
// reader's place is that of the first byte that is not.
type reader struct {
	text string
	at   int
}

// peek is the next byte.
func (r *reader) peek() int {
	if r.at >= len(r.text) {
		return ended
	}
	return int(r.text[r.at])
}

// part reads a part: it returns the character or code unit that it denotes, or
// nothing.
func (r *reader) part() (int, bool) {
	switch r.peek() {
	case '\\':
		r.at++
		return r.escape()
	case '\n', '\r':
		return 0, false
	}
	return r.character()
}

// character reads a character as it stands.
func (r *reader) character() (int, bool) {
	c, size := utf8.DecodeRuneInString(r.text[r.at:])
	if c == utf8.RuneError && size <= 1 {
		return 0, false
	}
	r.at += size
	return int(c), true
}

// escape reads a part behind its \.
func (r *reader) escape() (int, bool) {
	switch c := r.peek(); c {
	case 'x':
		r.at++
		return r.digits(2)
	case 'u':
		r.at++
		if r.peek() == '{' {
			r.at++
			return r.braced()
		}
		return r.digits(4)
	case '0':
		r.at++
		next := r.peek()
		return 0, next < '0' || next > '9'
	case '1', '2', '3', '4', '5', '6', '7', '8', '9':
		return 0, false
	case '\r':
		r.at++
		if r.peek() == '\n' {
			r.at++
		}
		return nothing, true
	}
	c, ok := r.character()
	return denoted(c), ok
}

// denoted is what a character behind a \ stands for.
func denoted(c int) int {
	switch c {
	case 'b':
		return 8
	case 't':
		return 9
	case 'n':
		return 10
	case 'v':
		return 11
	case 'f':
		return 12
	case 'r':
		return 13
	}
	if uni.Ends(c) {
		return nothing
	}
	return c
}

// digits reads a number of so many hexadecimal digits.
func (r *reader) digits(count int) (int, bool) {
	value := 0
	for range count {
		digit := hexadecimal(r.peek())
		if digit < 0 {
			return 0, false
		}
		value = value<<4 | digit
		r.at++
	}
	return value, true
}

// braced reads the digits of a code point and the } behind them.
func (r *reader) braced() (int, bool) {
	value, first := 0, r.at
digits:
	for {
		c := r.peek()
		switch digit := hexadecimal(c); {
		case digit >= 0:
			// More digits than it takes to be too great would run over.
			if value <= last {
				value = value<<4 | digit
			}
			r.at++
		case c == '}' && r.at > first && value <= last:
			break digits
		default:
			return 0, false
		}
	}
	r.at++
	return value, true
}

// hexadecimal is what c is worth as a hexadecimal digit; a byte that is none
// is worth less than any.
func hexadecimal(c int) int {
	switch {
	case c >= '0' && c <= '9':
		return c - '0'
	case c >= 'A' && c <= 'F':
		return c - 'A' + 10
	case c >= 'a' && c <= 'f':
		return c - 'a' + 10
	}
	return -1
}
