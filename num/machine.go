package num

// The states of the machine, each named for what it has read last.
const (
	begin       = iota
	zero        // the 0 that an integer part or the mark of a base begins with
	whole       // a digit of an integer part that doesn't begin with 0
	wholeGap    // a _ behind such a digit
	lead        // a point ahead of which no digit stands
	point       // a point behind an integer part
	fraction    // a digit behind the point
	fractionGap // a _ behind such a digit
	power       // the e of an exponent
	sign        // its sign
	exponent    // one of its digits
	exponentGap // a _ behind such a digit
	letter      // the letter of a base
	based       // a digit of that base
	basedGap    // a _ behind such a digit
	big         // the n at the end
	wrong       // what no literal begins with
)

// maxPlaces is how many digits an exponent may have behind its leading zeros.
const maxPlaces = 9

// machine reads a literal byte by byte.
type machine struct {
	state  int
	base   byte // the letter of the base in lower case, or 0
	places int  // how many digits of the exponent count
}

// accepts reports whether s has the form of a literal.
func accepts(s string) bool {
	m := machine{state: begin}
	for i := range len(s) {
		m.step(s[i])
		if m.state == wrong {
			return false
		}
	}
	switch m.state {
	case zero, whole, point, fraction, exponent, based, big:
		return true
	}
	return false
}

// step reads c.
func (m *machine) step(c byte) {
	switch {
	case m.state >= letter:
		m.state = afterBase(m.state, m.base, c)
	case m.state >= power:
		m.state = afterPower(m.state, c)
	default:
		m.state = afterMantissa(m.state, c)
	}
	switch m.state {
	case letter:
		m.base = lower(c)
	case exponent:
		// Leading zeros don't count: they make no power greater.
		if m.places > 0 || c != '0' {
			m.places++
		}
		if m.places > maxPlaces {
			m.state = wrong
		}
	}
}

// afterMantissa is the state after c behind the beginning, the integer part
// and the fraction.
func afterMantissa(state int, c byte) int {
	switch state {
	case begin:
		switch {
		case c == '0':
			return zero
		case digit(c):
			return whole
		case c == '.':
			return lead
		}
		return wrong
	case zero:
		switch {
		case radix(lower(c)) != 0:
			return letter
		case digit(c) || c == '_':
			return wrong
		}
		fallthrough
	case whole:
		switch {
		case digit(c):
			return whole
		case c == '_':
			return wholeGap
		case c == '.':
			return point
		case c == 'n':
			return big
		}
		fallthrough
	case point, fraction:
		switch {
		case lower(c) == 'e':
			return power
		case c == '_' && state == fraction:
			return fractionGap
		}
		fallthrough
	case lead, fractionGap:
		if digit(c) {
			return fraction
		}
	case wholeGap:
		if digit(c) {
			return whole
		}
	}
	return wrong
}

// afterPower is the state after c within an exponent.
func afterPower(state int, c byte) int {
	switch state {
	case power:
		if c == '+' || c == '-' {
			return sign
		}
		fallthrough
	case sign, exponentGap:
		if digit(c) {
			return exponent
		}
	case exponent:
		if c == '_' {
			return exponentGap
		}
		if digit(c) {
			return exponent
		}
	}
	return wrong
}

// afterBase is the state after c behind the letter of a base.
func afterBase(state int, base, c byte) int {
	switch state {
	case based:
		if c == '_' {
			return basedGap
		}
		if c == 'n' {
			return big
		}
		fallthrough
	case letter, basedGap:
		if value(c) < radix(base) {
			return based
		}
	}
	return wrong
}

// radix is the base that a letter in lower case stands for, or 0.
func radix(letter byte) int {
	switch letter {
	case 'x':
		return 16
	case 'o':
		return 8
	case 'b':
		return 2
	}
	return 0
}

// value is what c is worth as a digit of base 16; a byte that is none is
// worth more than any digit.
func value(c byte) int {
	switch c = lower(c); {
	case digit(c):
		return int(c - '0')
	case c >= 'a' && c <= 'f':
		return int(c-'a') + 10
	}
	return 16
}

// digit reports whether c is a digit of base 10.
func digit(c byte) bool {
	return c >= '0' && c <= '9'
}

// lower turns a letter A to Z into lower case and leaves other bytes alone.
func lower(c byte) byte {
	if c >= 'A' && c <= 'Z' {
		return c + 'a' - 'A'
	}
	return c
}
