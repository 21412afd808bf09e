package regex_test

import (
	"strconv"
	"strings"
	"testing"
	"unicode/utf8"

	"platen/api"
	"platen/uni"
)

// characters hands out, as texts, those of the lower planes that may stand in a
// body, those on the borders of names, and a part of the others.
func characters(take func(c string, r rune)) {
	for r := rune(0); r <= utf8.MaxRune; r++ {
		border := uni.Part(int(r)) != uni.Part(int(r-1)) || uni.Part(int(r)) != uni.Part(int(r+1))
		chosen := r < 0x3500 || border || r%64 == 0 || r%64 == 63
		if chosen && utf8.ValidRune(r) && !strings.ContainsRune("\n\r\u2028\u2029", r) {
			take(string(r), r)
		}
	}
}

// checkForm: a body is good, or of a wrong form at a place.
func checkForm(t *testing.T, body, flags string, good bool, at int) {
	t.Helper()
	if good {
		checkPlace(t, body, flags, 0, api.OK)
	} else {
		checkPlace(t, body, flags, at, api.ErrRegexForm)
	}
}

func TestCharactersForItself(t *testing.T) {
	t.Parallel()
	characters(func(c string, r rune) {
		for _, flags := range []string{"", "u"} {
			switch {
			case strings.Contains("([{\\", c):
				checkPlace(t, "z"+c, flags, 2, api.ErrRegexForm)
			case strings.Contains(")]}", c):
				checkPlace(t, "z"+c, flags, 1, api.ErrRegexForm)
			default:
				checkPlace(t, "z"+c, flags, 0, api.OK)
			}
			switch c {
			case "]":
				checkPlace(t, "["+c+"]", flags, 2, api.ErrRegexForm)
			case "\\":
				checkPlace(t, "["+c+"]", flags, 3, api.ErrRegexForm)
			default:
				checkPlace(t, "["+c+"]", flags, 0, api.OK)
			}
		}
	})
}

func TestCharactersInNames(t *testing.T) {
	t.Parallel()
	characters(func(c string, r rune) {
		start, part := uni.Start(int(r)), uni.Part(int(r))
		checkForm(t, "(?<"+c+">)", "", start || c == "=" || c == "!", 3)
		checkForm(t, "(?<a"+c+">)", "u", part || c == ">", 4)
		if part {
			checkPlace(t, "(?<a>)\\k<a"+c+">", "", 6, api.ErrRegexName)
			checkPlace(t, "(?<a"+c+">)\\k<a"+c+">(?<a"+c+">)", "", 14+2*len(c), api.ErrRegexName)
		} else {
			checkForm(t, "(?<a>)\\k<a"+c+">", "", c == ">", 10)
		}
	})
}

func TestCharactersBehindBackslash(t *testing.T) {
	t.Parallel()
	characters(func(c string, r rune) {
		for _, flags := range []string{"", "u"} {
			itself := !uni.Part(int(r))
			if flags == "u" {
				itself = strings.Contains("^$\\.*+?()[]{}|/", c)
			}
			more := "cxu"
			if flags == "u" {
				more = "cxupP"
			}
			always := itself || strings.Contains("fnrtv0dDsSwW", c)
			switch {
			case c >= "1" && c <= "9":
				checkPlace(t, "\\"+c, flags, 0, api.ErrRegexGroup)
			case strings.Contains(more+"k", c):
				checkPlace(t, "\\"+c, flags, 2, api.ErrRegexForm)
			default:
				checkForm(t, "\\"+c, flags, always || c == "b" || c == "B", 1)
			}
			if strings.Contains(more, c) {
				checkPlace(t, "[\\"+c+"]", flags, 3, api.ErrRegexForm)
			} else {
				checkForm(t, "[\\"+c+"]", flags, always || c == "b" || c == "-", 2)
			}
		}
	})
}

func TestLineTerminators(t *testing.T) {
	for _, c := range []string{"\n", "\r", "\r\n", "\u2028", "\u2029"} {
		for _, begin := range []string{"", "a", "(", "(?=", "(?<", "(?<a", "a{", "a{1", "a{1,", "a*", "[", "[^", "[a", "[a-", "[\\", "\\", "\\c", "\\x", "\\u00", "\\k", "\\k<", "\\k<a", "\\u{", "\\p{", "\\p{L"} {
			at := len(begin)
			for _, flags := range []string{"", "u"} {
				if flags == "" && (strings.HasPrefix(begin, "\\u{") || strings.HasPrefix(begin, "\\p")) {
					continue
				}
				checkPlace(t, begin+c+"]})", flags, at, api.ErrRegexForm)
			}
		}
	}
}

// checkSame: two points denote the same, for there is a range from each to the
// other.
func checkSame(t *testing.T, a, b, flags string) {
	t.Helper()
	checkPlace(t, "[a-z"+a+"-"+b+"]", flags, 0, api.OK)
	checkPlace(t, "[a-z"+b+"-"+a+"]", flags, 0, api.OK)
}

func TestWhatPointsDenote(t *testing.T) {
	t.Parallel()
	padded := func(value int64, width int) string {
		digits := strconv.FormatInt(value, 16)
		return strings.Repeat("0", max(0, width-len(digits))) + digits
	}
	characters(func(c string, r rune) {
		if c == "\\" || c == "]" {
			c = "\\" + c
		}
		value := int64(r)
		checkSame(t, c, "\\u{"+padded(value, 1)+"}", "u")
		checkSame(t, c, "\\u{"+strings.ToUpper(padded(value, 9))+"}", "u")
		if value <= 0xFFFF {
			checkSame(t, c, "\\u"+padded(value, 4), "")
			checkSame(t, c, "\\u"+strings.ToUpper(padded(value, 4)), "u")
		} else {
			high, low := 0xD800+(value-0x10000)>>10, 0xDC00+(value-0x10000)&0x3FF
			checkPlace(t, "["+c+"-\\u"+padded(low, 4)+"]", "", 0, api.OK)
			checkPlace(t, "["+c+"-\\u"+padded(low-1, 4)+"]", "", 1, api.ErrRegexRange)
			checkPlace(t, "[\\u"+padded(high, 4)+"-"+c+"]", "", 0, api.OK)
			checkPlace(t, "[\\u"+padded(high+1, 4)+"-"+c+"]", "", 1, api.ErrRegexRange)
		}
		if value <= 0xFF {
			checkSame(t, c, "\\x"+padded(value, 2), "")
			checkSame(t, c, "\\x"+strings.ToUpper(padded(value, 2)), "u")
		}
	})
	for letter := 'A'; letter <= 'Z'; letter++ {
		for _, flags := range []string{"", "u"} {
			checkSame(t, "\\c"+string(letter), "\\x"+padded(int64(letter-'A'+1), 2), flags)
			checkSame(t, "\\c"+strings.ToLower(string(letter)), "\\x"+padded(int64(letter-'A'+1), 2), flags)
		}
	}
	for escape, value := range map[string]int64{"b": 8, "t": 9, "n": 10, "v": 11, "f": 12, "r": 13, "0": 0, "/": '/', "^": '^', "-": '-', "]": ']', "\\": '\\'} {
		checkSame(t, "\\"+escape, "\\x"+padded(value, 2), "")
		checkSame(t, "\\"+escape, "\\x"+padded(value, 2), "u")
	}
}
