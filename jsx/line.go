package jsx

import (
	"iter"
	"strings"
)

// blanks are what may surround a line without being shown.
const blanks = " \t"

// line is a line of a text, without its end.
type line struct {
	text        string
	first, last bool
}

// lines hands out the lines of s, in order.
func lines(s string) iter.Seq[line] {
	return func(yield func(line) bool) {
		rest, first := s, true
		for {
			at := strings.IndexAny(rest, "\n\r")
			if at < 0 {
				yield(line{text: rest, first: first, last: true})
				return
			}
			if !yield(line{text: rest[:at], first: first}) {
				return
			}
			if strings.HasPrefix(rest[at:], "\r\n") {
				at++
			}
			rest, first = rest[at+1:], false
		}
	}
}

// shown is the line without the blanks that lie at the ends of lines.
func (l line) shown() string {
	text := l.text
	if !l.first {
		text = strings.TrimLeft(text, blanks)
	}
	if !l.last {
		text = strings.TrimRight(text, blanks)
	}
	return text
}
