// Package uni checks UTF-8, tells the characters of names, line terminators
// and blanks apart, and measures the width of texts: see DOC.md, chapter 1.
package uni

import "platen/api"

// Valid tells whether s is valid UTF-8, and if not, where it first isn't.
func Valid(s string) (int, api.Errno) {
	for at := 0; at < len(s); {
		size := complete(s[at:])
		if size == 0 {
			return at, api.ErrUniByte
		}
		at += size
	}
	return 0, api.OK
}

// Start reports whether a name may begin with r.
func Start(r int) bool {
	if r < 0x80 {
		return r == '$' || r == '_' || within(r, 'A', 'Z', 'a', 'z')
	}
	return within(r,
		0xAA, 0xAA, 0xB5, 0xB5, 0xBA, 0xBA, 0xC0, 0xD6, 0xD8, 0xF6, 0xF8, 0x2C1,
		0x370, 0x373, 0x386, 0x386, 0x388, 0x3FF, 0x400, 0x481, 0x48A, 0x52F,
		0x531, 0x556, 0x5D0, 0x5EA, 0x620, 0x64A, 0x904, 0x939, 0xE01, 0xE30,
		0x1E00, 0x1FFF, 0x3041, 0x3096, 0x30A1, 0x30FA, 0x3400, 0x4DBF,
		0x4E00, 0x9FFF, 0xAC00, 0xD7A3, 0x20000, 0x2A6DF)
}

// Part reports whether r may follow in a name.
func Part(r int) bool {
	return Start(r) || within(r,
		'0', '9', 0x300, 0x36F, 0x483, 0x487, 0x660, 0x669, 0x966, 0x96F,
		0x200C, 0x200D, 0xFF10, 0xFF19)
}

// Ends reports whether r is a line terminator.
func Ends(r int) bool {
	return within(r, 0xA, 0xA, 0xD, 0xD, 0x2028, 0x2029)
}

// Blank reports whether r is a blank that does not end a line.
func Blank(r int) bool {
	return within(r,
		0x9, 0x9, 0xB, 0xC, 0x20, 0x20, 0xA0, 0xA0, 0x1680, 0x1680,
		0x2000, 0x200A, 0x202F, 0x202F, 0x205F, 0x205F, 0x3000, 0x3000,
		0xFEFF, 0xFEFF)
}

// Width tells how many columns s occupies.
func Width(s string) int {
	columns := 0
	// The range hands out U+FFFD for each single byte that belongs to no
	// complete character, and that is as narrow as such a byte has to be.
	for _, r := range s {
		columns++
		if wide(int(r)) {
			columns++
		}
	}
	return columns
}

// wide reports whether r occupies two columns.
func wide(r int) bool {
	return within(r,
		0x1100, 0x115F, 0x2E80, 0x303E, 0x3041, 0x33FF, 0x3400, 0x4DBF,
		0x4E00, 0x9FFF, 0xA000, 0xA4CF, 0xAC00, 0xD7A3, 0xF900, 0xFAFF,
		0xFE30, 0xFE6F, 0xFF00, 0xFF60, 0xFFE0, 0xFFE6, 0x1F300, 0x1F64F,
		0x1F900, 0x1F9FF, 0x20000, 0x3FFFD)
}

// within reports whether r lies in one of the ranges whose first and last
// characters are given in turn, in ascending order.
func within(r int, bounds ...int) bool {
	for i := 0; i+1 < len(bounds); i += 2 {
		// The ranges ascend: no later one can hold what lies ahead of this one.
		if r < bounds[i] {
			return false
		}
		if r <= bounds[i+1] {
			return true
		}
	}
	return false
}

// complete tells how many bytes the complete character at the beginning of s
// takes, or 0 if none stands there. s is not empty.
func complete(s string) int {
	lead := int(s[0])
	switch {
	case lead < 0x80:
		return 1
	case within(lead, 0xC0, 0xDF):
		return compose(s, lead&0x1F, 2, 0x80)
	case within(lead, 0xE0, 0xEF):
		return compose(s, lead&0xF, 3, 0x800)
	case within(lead, 0xF0, 0xF7):
		return compose(s, lead&0x7, 4, 0x10000)
	}
	return 0
}

// compose shifts the bits of the bytes behind the first into r, and returns
// size if that makes a character of which size is the shortest form, else 0.
func compose(s string, r, size, least int) int {
	if len(s) < size {
		return 0
	}
	for i := 1; i < size; i++ {
		if s[i]&0xC0 != 0x80 {
			return 0
		}
		r = r<<6 | int(s[i]&0x3F)
	}
	if r < least || r > 0x10FFFF || within(r, 0xD800, 0xDFFF) {
		return 0
	}
	return size
}
