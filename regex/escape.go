package regex

import (
	"strconv"
	"strings"

	"platen/api"
	"platen/uni"
)

const (
	set    = -1                // what an escape for a set of characters denotes
	last   = 0x10FFFF          // the greatest code point
	syntax = `^$\.*+?()[]{}|/` // what may be escaped with the flag u
)

// escaped reads an assertion or an atom that begins with \, and reports
// whether it is an atom.
func (r *reader) escaped() bool {
	place := r.at
	r.at++
	switch c := r.peek(); {
	case c == 'b' || c == 'B':
		r.at++
		return false
	case c == 'k':
		r.at++
		r.expect('<')
		r.referName(place, r.name())
	case c != '0' && digit(c):
		r.referNumber(place, r.number())
	default:
		r.escape()
	}
	return true
}

// referName notes that there has to be a group of that name.
func (r *reader) referName(place int, name string) {
	r.references = append(r.references, func() {
		if r.names[name] == 0 {
			throw(place, api.ErrRegexName)
		}
	})
}

// referNumber notes that there have to be so many groups.
func (r *reader) referNumber(place int, number string) {
	r.references = append(r.references, func() {
		if less(strconv.Itoa(r.groups), number) {
			throw(place, api.ErrRegexGroup)
		}
	})
}

// escape reads a set or an escape behind its \, and returns set or the
// character that is denoted.
func (r *reader) escape() int {
	place := r.at
	switch c := r.character(anything); c {
	case 'd', 'D', 's', 'S', 'w', 'W':
		return set
	case 'f', 'n', 'r', 't', 'v':
		return control(c)
	case 'c':
		return r.character(letter) & 0x1F
	case '0':
		if digit(r.peek()) {
			r.refuse()
		}
		return 0
	case 'x':
		return r.digits(2)
	case 'u':
		if r.unicode && r.take('{') {
			return r.braced()
		}
		return r.digits(4)
	default:
		if r.unicode && (c == 'p' || c == 'P') {
			r.property()
			return set
		}
		if !r.escapable(c) {
			throw(place, api.ErrRegexForm)
		}
		return c
	}
}

// control is what a letter behind \ stands for.
func control(c int) int {
	switch c {
	case 't':
		return 9
	case 'n':
		return 10
	case 'v':
		return 11
	case 'f':
		return 12
	}
	return 13
}

// escapable reports whether c may stand behind \ for itself.
func (r *reader) escapable(c int) bool {
	if r.unicode {
		return strings.ContainsRune(syntax, rune(c))
	}
	return !uni.Part(c)
}

// digits reads a number of so many hexadecimal digits.
func (r *reader) digits(count int) int {
	first := r.at
	for range count {
		r.character(hexadecimal)
	}
	value, _ := strconv.ParseUint(r.body[first:r.at], 16, 32)
	return int(value)
}

// braced reads the digits of a code point and the } behind them.
func (r *reader) braced() int {
	first := r.at
	for hexadecimal(r.peek()) {
		r.at++
	}
	// No digits are an error here, and so are more than fit.
	value, err := strconv.ParseUint(r.body[first:r.at], 16, 32)
	if err != nil || value > last {
		r.refuse()
	}
	r.expect('}')
	return int(value)
}

// digit reports whether c is a digit of base 10.
func digit(c int) bool {
	return c >= '0' && c <= '9'
}

// letter reports whether c is a letter A to Z or a to z.
func letter(c int) bool {
	return c >= 'A' && c <= 'Z' || c >= 'a' && c <= 'z'
}

// hexadecimal reports whether c is a digit of base 16.
func hexadecimal(c int) bool {
	return digit(c) || c >= 'A' && c <= 'F' || c >= 'a' && c <= 'f'
}
