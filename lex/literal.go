package lex

import (
	"platen/api"
	"platen/num"
	"platen/str"
	"platen/uni"
)

// number reads a numeric literal, and looks at what stands directly behind it.
func (r *reader) number() (int, api.Errno) {
	from := r.at
	r.reach()
	if num.Check(r.text[from:r.at]) != api.OK {
		// The longest literal ends ahead of here then, and what stands directly
		// behind it is a letter, a digit or a _.
		return 0, r.fail(from, api.ErrLexNumber)
	}
	switch c, _ := r.look(); {
	case c == broken:
		return 0, api.ErrLexByte
	case uni.Start(c) || digit(c):
		return 0, r.fail(from, api.ErrLexNumber)
	}
	return api.TokNum, api.OK
}

// reach goes as far as a literal could reach whatever its letters are: over
// its digits, a point behind a whole number, the sign of an exponent.
func (r *reader) reach() {
	from := r.at
	if whole := r.digits(); whole && r.follows(".") {
		r.at++
		r.digits()
	}
	number := r.text[from:r.at]
	hexadecimal := len(number) > 1 && number[1]|0x20 == 'x'
	// In base 16 an e is a digit, and a sign behind it an operator.
	if hexadecimal || number[len(number)-1]|0x20 != 'e' {
		return
	}
	if r.follows("+") || r.follows("-") {
		r.at++
		r.digits()
	}
}

// digits passes letters, digits and _, and reports whether all that it passed
// may stand in the integer part of a decimal.
func (r *reader) digits() bool {
	whole := true
	for r.at < len(r.text) {
		c := int(r.text[r.at])
		if !digit(c) && c != '_' {
			if lower := c | 0x20; lower < 'a' || lower > 'z' {
				break
			}
			whole = false
		}
		r.at++
	}
	return whole
}

// literal reads a string literal.
func (r *reader) literal() (int, api.Errno) {
	from := r.at
	halt := r.toQuote()
	place, code := str.Check(r.text[from:r.at])
	switch {
	case code == api.OK:
		return api.TokStr, api.OK
	case halt == broken && from+place == r.at:
		// Nothing is wrong ahead of the byte that stopped the reader.
		return 0, api.ErrLexByte
	}
	return 0, r.fail(from+place, api.ErrLexString)
}

// toQuote goes behind the quote that closes a string literal, or to where the
// literal can't go on: it returns the character or the end that it met.
func (r *reader) toQuote() int {
	quote, size := r.look()
	r.at += size
	for {
		c, size := r.look()
		switch c {
		case ended, broken, '\n', '\r':
			return c
		case '\\':
			r.at += size
			size = r.escaped()
		}
		r.at += size
		if c == quote {
			return c
		}
	}
}

// escaped tells how many bytes the character or the end of a line behind a \
// takes.
func (r *reader) escaped() int {
	if r.follows("\r\n") {
		return len("\r\n")
	}
	_, size := r.look()
	return size
}

// regex reads a regular expression and its flags.
func (r *reader) regex() (int, api.Errno) {
	from := r.at
	r.at += len("/")
	for escaped, class := false, false; ; {
		c, size := r.look()
		switch {
		case c == broken:
			return 0, api.ErrLexByte
		case c == ended || uni.Ends(c):
			return 0, r.fail(from, api.ErrLexRegex)
		case escaped:
			escaped = false
		case c == '\\':
			escaped = true
		case c == '[':
			class = true
		case c == ']':
			class = false
		case c == '/' && !class:
			r.at += size
			return api.TokRegex, r.parts(false)
		}
		r.at += size
	}
}

// template reads from a backquote or a } to the next backquote or ${, and
// returns whole or part, the kind of what ends there.
func (r *reader) template(whole, part int) (int, api.Errno) {
	from := r.at
	r.at++
	for {
		c, size := r.look()
		switch {
		case c == broken:
			return 0, api.ErrLexByte
		case c == ended:
			return 0, r.fail(from, api.ErrLexTemplate)
		case c == '\\':
			r.at += size
			_, size = r.look()
		case c == '`':
			r.at += size
			return whole, api.OK
		case r.follows("${"):
			r.at += len("${")
			return part, api.OK
		}
		r.at += size
	}
}
