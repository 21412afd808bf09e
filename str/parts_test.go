package str_test

import (
	"slices"
	"strconv"
	"strings"
	"testing"
	"unicode/utf8"

	"platen/api"
	"platen/str"
)

// piece is a part and the code units that it denotes.
type piece struct {
	text  string
	units []int
}

// pieces are parts of every form.
func pieces() []piece {
	return []piece{
		{"'", []int{'\''}}, {"\"", []int{'"'}}, {"\\'", []int{'\''}}, {"\\\"", []int{'"'}}, {"\\\\", []int{'\\'}}, {"a", []int{'a'}}, {"0", []int{'0'}},
		{"9", []int{'9'}}, {"x", []int{'x'}}, {"u", []int{'u'}}, {"{", []int{'{'}}, {"}", []int{'}'}}, {"\x00", []int{0}}, {"é", []int{0xe9}},
		{"\u2028", []int{0x2028}}, {"\U0001f600", []int{0xd83d, 0xde00}}, {"\\b", []int{8}}, {"\\n", []int{10}}, {"\\a", []int{'a'}}, {"\\{", []int{'{'}},
		{"\\é", []int{0xe9}}, {"\\\U0001f600", []int{0xd83d, 0xde00}}, {"\\0", []int{0}}, {"\\x4a", []int{'J'}}, {"\\x27", []int{'\''}},
		{"\\u0022", []int{'"'}}, {"\\uDC00", []int{0xdc00}}, {"\\u{5c}", []int{'\\'}}, {"\\u{010fFfF}", []int{0xdbff, 0xdfff}},
		{"\\\n", nil}, {"\\\r", nil}, {"\\\r\n", nil}, {"\\\u2029", nil},
	}
}

// follows reports whether two parts in succession don't stand for others.
func follows(before, behind piece) bool {
	return before.text != "\\0" || behind.text[0] != '0' && behind.text[0] != '9'
}

// literals hands out every literal of up to three parts, as its parts.
func literals(take func(quote string, parts []piece)) {
	all := pieces()
	for _, quote := range []string{"'", "\""} {
		take(quote, nil)
		for _, one := range all {
			if one.text == quote {
				continue
			}
			take(quote, []piece{one})
			for _, two := range all {
				if two.text == quote || !follows(one, two) {
					continue
				}
				take(quote, []piece{one, two})
				for _, three := range all {
					if three.text != quote && follows(two, three) {
						take(quote, []piece{one, two, three})
					}
				}
			}
		}
	}
}

func join(quote string, parts []piece) (string, []int) {
	text, units := quote, []int(nil)
	for _, p := range parts {
		text += p.text
		units = append(units, p.units...)
	}
	return text + quote, units
}

func TestPartsStandForThemselves(t *testing.T) {
	literals(func(quote string, parts []piece) {
		s, units := join(quote, parts)
		checkPlace(t, s, 0, api.OK)
		checkUnits(t, s, units, api.OK)
	})
}

// TestBeginningsOfLiterals: a text that can still become a literal is wrong at
// its end, or where its last character is cut off.
func TestBeginningsOfLiterals(t *testing.T) {
	literals(func(quote string, parts []piece) {
		if len(parts) > 2 {
			return
		}
		s, _ := join(quote, parts)
		for size := range len(s) {
			at := size
			for at > 0 && !utf8.RuneStart(s[at]) {
				at--
			}
			checkWrong(t, s[:size], at)
		}
		for _, more := range []string{"a", "'", "\"", "\\", "\n", "\xff"} {
			checkWrong(t, s+more, len(s))
		}
	})
}

// requoted is what the document says of Quote, said part by part.
func requoted(parts []piece, single bool) string {
	singles, doubles := 0, 0
	for _, p := range parts {
		switch p.text {
		case "'", "\\'":
			singles++
		case "\"", "\\\"":
			doubles++
		}
	}
	quote, other := "\"", "'"
	if single && singles <= doubles || !single && doubles > singles {
		quote, other = "'", "\""
	}
	text := quote
	for _, p := range parts {
		switch p.text {
		case quote:
			text += "\\" + quote
		case "\\" + other:
			text += other
		default:
			text += p.text
		}
	}
	return text + quote
}

func TestQuoteKeepsParts(t *testing.T) {
	literals(func(quote string, parts []piece) {
		s, units := join(quote, parts)
		for _, single := range []bool{false, true} {
			want := requoted(parts, single)
			checkQuote(t, s, single, want, api.OK)
			checkQuote(t, want, single, want, api.OK)
			checkUnits(t, want, units, api.OK)
		}
	})
}

// escapes are the forms of what stands behind a \; H is a hexadecimal digit.
func escapes() []string {
	return []string{"\n", "\r\n", "\r", "\u2028", "\u2029", "xHH", "uHHHH", "b", "f", "n", "r", "t", "v"}
}

// matched is how many bytes of s agree with form.
func matched(s, form string) int {
	for i := range len(form) {
		if i == len(s) || form[i] != 'H' && s[i] != form[i] || form[i] == 'H' && !strings.ContainsRune("0123456789abcdefABCDEF", rune(s[i])) {
			return i
		}
	}
	return len(form)
}

// escapeEnd is where the escape ends whose \ stands ahead of s, or where s is
// wrong.
func escapeEnd(s string) (int, bool) {
	if digits, open := strings.CutPrefix(s, "u{"); open {
		rest := strings.TrimLeft(digits, "0123456789abcdefABCDEF")
		at := len(s) - len(rest)
		zeroless := strings.TrimLeft(digits[:len(digits)-len(rest)], "0")
		value, err := strconv.ParseUint("0"+zeroless, 16, 64)
		good := at > 2 && strings.HasPrefix(rest, "}") && err == nil && value <= utf8.MaxRune
		if good {
			at++
		}
		return at, good
	}
	furthest := 0
	for _, form := range escapes() {
		n := matched(s, form)
		if n == len(form) {
			return n, true
		}
		if form[0] == 'x' || form[0] == 'u' {
			furthest = max(furthest, n)
		}
	}
	if furthest > 0 || s == "" || s[0] >= '1' && s[0] <= '9' {
		return furthest, false
	}
	if s[0] == '0' {
		return 1, len(s) == 1 || s[1] < '0' || s[1] > '9'
	}
	r, size := utf8.DecodeRuneInString(s)
	if r == utf8.RuneError && size == 1 {
		return 0, false
	}
	return size, true
}

// place is what the document says of Check.
func place(s string) (int, api.Errno) {
	if s == "" || s[0] != '\'' && s[0] != '"' {
		return 0, api.ErrStrForm
	}
	at := 1
	for at < len(s) && s[at] != s[0] {
		if s[at] == '\\' {
			n, good := escapeEnd(s[at+1:])
			at += 1 + n
			if !good {
				return at, api.ErrStrForm
			}
			continue
		}
		r, size := utf8.DecodeRuneInString(s[at:])
		if r == '\n' || r == '\r' || r == utf8.RuneError && size == 1 {
			return at, api.ErrStrForm
		}
		at += size
	}
	if at+1 == len(s) {
		return 0, api.OK
	}
	return min(at+1, len(s)), api.ErrStrForm
}

func checkAgainstPlace(t *testing.T, s string) {
	t.Helper()
	at, code := place(s)
	if code != api.OK {
		checkWrong(t, s, at)
		return
	}
	checkPlace(t, s, 0, api.OK)
	units, unitsCode := str.Units(s)
	if unitsCode != api.OK {
		t.Fatalf("Units(%q): %d", s, unitsCode)
	}
	for _, single := range []bool{false, true} {
		quoted, quoteCode := str.Quote(s, single)
		if quoteCode != api.OK {
			t.Fatalf("Quote(%q, %v): %d", s, single, quoteCode)
		}
		checkUnits(t, quoted, units, api.OK)
		checkQuote(t, quoted, single, quoted, api.OK)
	}
}

// TestShortTexts goes through all texts of few bytes that stand behind a quote
// or in the middle of an escape.
func TestShortTexts(t *testing.T) {
	var extend func(s, alphabet string, more int)
	extend = func(s, alphabet string, more int) {
		checkAgainstPlace(t, s)
		for i := 0; more > 0 && i < len(alphabet); i++ {
			extend(s+alphabet[i:i+1], alphabet, more-1)
		}
	}
	extend("", "'\"\\0ax\n\r\xc3\xa9", 4)
	extend("'", "'\"\\0ux\r\n\xe2\x80\xa8", 4)
	extend("\"\\", "\"'\\018n{\r\n\xf0\x9f\x98\x80", 4)
	extend("'\\x", "'\\09afgAFG/:@`\xff", 3)
	extend("'\\u", "'0dD8{}", 5)
	extend("'\\u{", "'01fF}g", 4)
	extend("'\\u{10F", "'0fFg}", 4)
	extend("\"\\u{1", "\"01}", 7)
}

// TestEveryByteInEveryPlace puts each byte into each place of some literals,
// and beside it.
func TestEveryByteInEveryPlace(t *testing.T) {
	for _, s := range []string{
		"'a\\'\\\"\"b'", "\"\\x4aé\\u00e9\"", "'\\u{10ffff}\\u{0001F600}'", "\"\\0\\\r\n\\\u2028日\U0001f600\"", "'\\b\\é\\\U0001f600\\\\'",
	} {
		for at := range len(s) {
			for b := range 256 {
				c := string([]byte{byte(b)})
				checkAgainstPlace(t, s[:at]+c+s[at+1:])
				checkAgainstPlace(t, s[:at]+c+s[at:])
			}
			checkAgainstPlace(t, s[:at]+s[at+1:])
		}
	}
}

func TestLargeTexts(t *testing.T) {
	const count = 60000
	for _, p := range pieces() {
		parts, units := strings.Repeat(p.text, count), slices.Repeat(p.units, count)
		quote := "'"
		if p.text == quote {
			quote = "\""
		}
		if p.text == "0" {
			checkWrong(t, "'\\"+parts+"'", 3)
		}
		s := quote + parts + quote
		checkUnits(t, s, units, api.OK)
		quoted, _ := str.Quote(s, true)
		checkUnits(t, quoted, units, api.OK)
		checkWrong(t, s+"x", len(s))
		checkWrong(t, s[:len(s)-1], len(s)-1)
	}
	digits := strings.Repeat("0", 1<<20) + "41"
	checkUnits(t, "'\\u{"+digits+"}'", []int{'A'}, api.OK)
	checkWrong(t, "'\\u{"+strings.Repeat("f", 1<<20)+"}'", 4+1<<20)
}

// TestAnswersAreNew changes a list that was handed out, and asks again.
func TestAnswersAreNew(t *testing.T) {
	first, _ := str.Units("'ab'")
	for i := range first[:cap(first)] {
		first[:cap(first)][i] = -7
	}
	checkUnits(t, "'ab'", []int{'a', 'b'}, api.OK)
}
