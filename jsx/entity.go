package jsx

import (
	"strings"
	"unicode/utf8"
)

// tooGreat is the least number that is above those of all characters.
const tooGreat = utf8.MaxRune + 1

// entity returns the number that the entity at the beginning of s denotes, and
// how many bytes the entity takes: 0 if there is none. There need not be a
// character with this number. s begins with &.
func entity(s string) (rune, int) {
	switch {
	case strings.HasPrefix(s, "&#x"):
		return numbered(s, len("&#x"), hexadecimal)
	case strings.HasPrefix(s, "&#"):
		return numbered(s, len("&#"), decimal)
	}
	return named(s)
}

// numbered reads an entity whose digits begin at the place first.
func numbered(s string, first int, grow func(value uint32, c byte) (uint32, bool)) (rune, int) {
	var value uint32
	for i := first; i < len(s); i++ {
		more, ok := grow(value, s[i])
		switch {
		case ok:
			// Many digits would run over, and might come to a character again.
			value = min(more, tooGreat)
		case s[i] == ';' && i > first:
			return rune(value), i + 1
		default:
			return 0, 0
		}
	}
	return 0, 0
}

// decimal puts c behind the digits of value, if it is a digit of base 10.
func decimal(value uint32, c byte) (uint32, bool) {
	if c < '0' || c > '9' {
		return 0, false
	}
	return value<<3 + value<<1 + uint32(c-'0'), true
}

// hexadecimal puts c behind the digits of value, if it is a digit of base 16.
func hexadecimal(value uint32, c byte) (uint32, bool) {
	switch {
	case c >= '0' && c <= '9':
		c -= '0'
	case c >= 'A' && c <= 'F':
		c -= 'A' - 10
	case c >= 'a' && c <= 'f':
		c -= 'a' - 10
	default:
		return 0, false
	}
	return value<<4 | uint32(c), true
}

// named reads an entity with a name.
func named(s string) (rune, int) {
	longest := min(len(s), len("&hellip;"))
	name, _, ended := strings.Cut(s[:longest], ";")
	if !ended {
		return 0, 0
	}
	c := character(name)
	if c == 0 {
		return 0, 0
	}
	return c, len(name) + len(";")
}

// character is the character that a name stands for, or 0 if it is none.
func character(name string) rune {
	switch name {
	case "&amp":
		return '&'
	case "&lt":
		return '<'
	case "&gt":
		return '>'
	case "&quot":
		return '"'
	case "&apos":
		return '\''
	case "&nbsp":
		return 0xA0
	case "&copy":
		return 0xA9
	case "&reg":
		return 0xAE
	case "&hellip":
		return 0x2026
	case "&mdash":
		return 0x2014
	case "&ndash":
		return 0x2013
	}
	return 0
}
