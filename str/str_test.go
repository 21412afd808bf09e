package str_test

import (
	"slices"
	"strconv"
	"strings"
	"testing"
	"unicode/utf16"
	"unicode/utf8"

	"platen/api"
	"platen/str"
)

func checkPlace(t *testing.T, s string, at int, code api.Errno) {
	t.Helper()
	if gotAt, gotCode := str.Check(s); gotAt != at || gotCode != code {
		t.Fatalf("Check(%q) = %d, %d; want %d, %d", s, gotAt, gotCode, at, code)
	}
}

func checkUnits(t *testing.T, s string, want []int, code api.Errno) {
	t.Helper()
	if got, gotCode := str.Units(s); !slices.Equal(got, want) || gotCode != code {
		t.Fatalf("Units(%q) = %x, %d; want %x, %d", s, got, gotCode, want, code)
	}
}

func checkQuote(t *testing.T, s string, single bool, want string, code api.Errno) {
	t.Helper()
	if got, gotCode := str.Quote(s, single); got != want || gotCode != code {
		t.Fatalf("Quote(%q, %v) = %q, %d; want %q, %d", s, single, got, gotCode, want, code)
	}
}

// checkWrong holds all calls against a text that is no literal.
func checkWrong(t *testing.T, s string, at int) {
	t.Helper()
	checkPlace(t, s, at, api.ErrStrForm)
	checkUnits(t, s, nil, api.ErrStrForm)
	checkQuote(t, s, false, "", api.ErrStrForm)
	checkQuote(t, s, true, "", api.ErrStrForm)
}

func TestCheckPlaces(t *testing.T) {
	for _, c := range []struct {
		s  string
		at int
	}{
		// No quote at the beginning.
		{"", 0}, {"a", 0}, {"`a`", 0}, {" 'a'", 0}, {"\\'a'", 0}, {"\xff", 0}, {"’a’", 0}, {"\x00", 0},
		// No quote at the end.
		{"'", 1}, {"\"", 1}, {"'a", 2}, {"'a\"", 3}, {"\"a'", 3}, {"'é", 3}, {"'a\\'", 4}, {"\"\\\"", 3}, {"'\\\\\\'", 5},
		// Something behind it.
		{"'a'b'", 3}, {"'' ", 2}, {"''''", 2}, {"'a'\n", 3}, {"'a'\xff", 3}, {"''\\", 2}, {"\"\"\"", 2}, {"'a'\x00", 3},
		// Line terminators and invalid characters.
		{"'a\nb'", 2}, {"'a\rb'", 2}, {"'\n", 1}, {"'\r\n'", 1}, {"'\\\n\n'", 3}, {"'\\\r\r'", 3}, {"'\\\r\n\n'", 4}, {"'\\\n\r'", 3},
		{"'\\\u2028\n'", 5}, {"'\xff'", 1}, {"'a\x80'", 2}, {"'\xe6\x97", 1}, {"'\xe6\x97'", 1}, {"'\xed\xa0\x80'", 1},
		{"'\xf4\x90\x80\x80'", 1}, {"'\xc0\xaf'", 1}, {"'é\xc3'", 3}, {"'\\\xff'", 2}, {"'\\\xe6\x97'", 2}, {"'a\\\xe2\x80'", 3},
		// Escapes that are none.
		{"'\\", 2}, {"'\\1'", 2}, {"'\\7'", 2}, {"'\\8'", 2}, {"'\\9", 2}, {"'\\00'", 3}, {"'\\01'", 3}, {"'\\09'", 3}, {"'\\0", 3},
		{"'\\x'", 3}, {"'\\x", 3}, {"'\\xg0'", 3}, {"'\\x4'", 4}, {"'\\x4", 4}, {"'\\x4g'", 4}, {"'\\x\xff'", 3}, {"'\\x4é'", 4}, {"'\\X4", 4},
		{"'\\u'", 3}, {"'\\u", 3}, {"'\\ug", 3}, {"'\\u1'", 4}, {"'\\u12'", 5}, {"'\\u123'", 6}, {"'\\u123", 6}, {"'\\u123\xff'", 6}, {"'\\u1{'", 4},
		{"'\\u{", 4}, {"'\\u{}'", 4}, {"'\\u{'", 4}, {"'\\u{g}'", 4}, {"'\\u{-1}'", 4}, {"'\\u{1", 5}, {"'\\u{1'", 5}, {"'\\u{1 }'", 5},
		{"'\\u{1_0}'", 5}, {"'\\u{1\xff}'", 5}, {"'\\u{1\n}'", 5}, {"'\\u {1}'", 3},
		// Code points that are too great.
		{"'\\u{110000}'", 10}, {"'\\u{110000", 10}, {"'\\u{110000x}'", 10}, {"'\\u{110000'", 10}, {"'\\u{0110000}'", 11}, {"'\\u{10FFFF0}'", 11},
		{"'\\u{10ffff", 10}, {"'\\u{FFFFFF}'", 10}, {"'\\u{100000041}'", 13}, {"'\\u{10000000000000041}'", 21}, {"'\\u{110000}\\q\xff'", 10},
		{"'\\u{8000000000000000}'", 20}, {"'\\u{FFFFFFFFFFFFFFFF}'", 20}, {"'\\u{" + strings.Repeat("8", 1000) + "}'", 1004},
	} {
		checkWrong(t, c.s, c.at)
	}
}

func TestUnitsOfLiterals(t *testing.T) {
	for _, c := range []struct {
		s    string
		want []int
	}{
		{"''", nil}, {"\"\"", nil}, {"'\"'", []int{'"'}}, {"\"'\"", []int{'\''}}, {"'a'", []int{'a'}}, {"'\x00'", []int{0}}, {"'\x7f\t'", []int{127, 9}},
		{"'é日\ufffd\uffff'", []int{0xe9, 0x65e5, 0xfffd, 0xffff}}, {"'\u2028\u2029\u0085'", []int{0x2028, 0x2029, 0x85}},
		{"'\U00010000\U0001f600\U0010ffff'", []int{0xd800, 0xdc00, 0xd83d, 0xde00, 0xdbff, 0xdfff}},
		{"'\\\n'", nil}, {"'\\\r'", nil}, {"'\\\r\n'", nil}, {"'\\\u2028\\\u2029'", nil}, {"'\\\n\\\r\\\r\n\\\n'", nil}, {"'\\\u0085'", []int{0x85}},
		{"'\\x00\\x41\\xfF\\xFf'", []int{0, 'A', 255, 255}}, {"'\\u0041\\uFfFf\\u0000'", []int{'A', 0xffff, 0}}, {"'\\xabc'", []int{0xab, 'c'}},
		{"'\\uD800'", []int{0xd800}}, {"'\\ud83d\\ude00'", []int{0xd83d, 0xde00}}, {"'\\uDFFF'", []int{0xdfff}}, {"'\\u00412'", []int{'A', '2'}},
		{"'\\u{0}'", []int{0}}, {"'\\u{0010FFFF}'", []int{0xdbff, 0xdfff}}, {"'\\u{ffff}'", []int{0xffff}}, {"'\\u{10000}'", []int{0xd800, 0xdc00}},
		{"'\\u{D800}'", []int{0xd800}}, {"'\\u{1f600}a\\\n'", []int{0xd83d, 0xde00, 'a'}}, {"'\\u{" + strings.Repeat("0", 1000) + "61}'", []int{'a'}},
		{"'\\0'", []int{0}}, {"'\\0a\\0\\0'", []int{0, 'a', 0, 0}}, {"'\\0\\x31'", []int{0, '1'}}, {"'\\0\\\n1'", []int{0, '1'}}, {"'\\0\u0661'", []int{0, 0x661}},
		{"'\\b\\f\\n\\r\\t\\v'", []int{8, 12, 10, 13, 9, 11}}, {"'\\a\\c\\B\\N\\X\\U'", []int{'a', 'c', 'B', 'N', 'X', 'U'}},
		{"'\\'\\\"\\\\\\/'", []int{'\'', '"', '\\', '/'}}, {"'\\é\\日\\\U0001f600\\\ufffd'", []int{0xe9, 0x65e5, 0xd83d, 0xde00, 0xfffd}},
		{"'\\{\\}\\ \\\t\\\x00'", []int{'{', '}', ' ', 9, 0}}, {"'\\\\u0041'", []int{'\\', 'u', '0', '0', '4', '1'}},
	} {
		checkPlace(t, c.s, 0, api.OK)
		checkUnits(t, c.s, c.want, api.OK)
	}
}

// TestUnitsOfEveryCharacter goes through all characters, plain, behind a \ and
// in each spelling by digits.
func TestUnitsOfEveryCharacter(t *testing.T) {
	short := map[rune]int{'b': 8, 't': 9, 'n': 10, 'v': 11, 'f': 12, 'r': 13, '0': 0}
	for r := rune(0); r <= utf8.MaxRune; r++ {
		units := []int{int(r)}
		if high, low := utf16.EncodeRune(r); high != utf8.RuneError {
			units = []int{int(high), int(low)}
		}
		digits := strconv.FormatInt(int64(r), 16)
		checkUnits(t, "'\\u{"+digits+"}'", units, api.OK)
		if r <= 0xFFFF {
			padded := strings.Repeat("0", 4-len(digits)) + strings.ToUpper(digits)
			checkUnits(t, "\"\\u"+padded+"\"", units, api.OK)
			if r <= 0xFF {
				checkUnits(t, "\"\\x"+padded[2:]+"\"", units, api.OK)
			}
		}
		if !utf8.ValidRune(r) {
			continue
		}
		switch r {
		case '\'', '\\':
		case '\n', '\r':
			checkWrong(t, "'"+string(r)+"'", 1)
		default:
			checkUnits(t, "'"+string(r)+"'", units, api.OK)
		}
		switch value, known := short[r]; {
		case known:
			checkUnits(t, "'\\"+string(r)+"'", []int{value}, api.OK)
		case r >= '1' && r <= '9':
			checkWrong(t, "'\\"+string(r)+"'", 2)
		case r == 'x' || r == 'u':
			checkWrong(t, "'\\"+string(r)+"'", 3)
		case r == '\n' || r == '\r' || r == 0x2028 || r == 0x2029:
			checkUnits(t, "'\\"+string(r)+"'", nil, api.OK)
		default:
			checkUnits(t, "'\\"+string(r)+"'", units, api.OK)
		}
	}
}

func TestQuoteOfLiterals(t *testing.T) {
	for _, c := range []struct {
		s              string
		double, single string
	}{
		{`'a'`, `"a"`, `'a'`}, {`"a"`, `"a"`, `'a'`}, {`''`, `""`, `''`}, {`""`, `""`, `''`},
		{`'it\'s'`, `"it's"`, `"it's"`}, {`'say "x"'`, `'say "x"'`, `'say "x"'`}, {`'a\"b'`, `'a"b'`, `'a"b'`},
		{`"it's"`, `"it's"`, `"it's"`}, {`"say \"x\""`, `'say "x"'`, `'say "x"'`}, {`"a\'b"`, `"a'b"`, `"a'b"`},
		// As many of the one as of the other: the quote that is asked for.
		{`'"\''`, `"\"'"`, `'"\''`}, {`"\"'"`, `"\"'"`, `'"\''`}, {`'\"\''`, `"\"'"`, `'"\''`}, {`"\"\'"`, `"\"'"`, `'"\''`}, {`'\'\'""'`, `"''\"\""`, `'\'\'""'`},
		// One more of the quote that is asked for.
		{`'\'"\''`, `"'\"'"`, `"'\"'"`}, {`"'\"'"`, `"'\"'"`, `"'\"'"`}, {`"\"'\""`, `'"\'"'`, `'"\'"'`}, {`'"\'"'`, `'"\'"'`, `'"\'"'`},
		// Quotes behind a \ that belongs to another escape, and escapes that look like quotes.
		{`'\\"'`, `'\\"'`, `'\\"'`}, {`'\\\''`, `"\\'"`, `"\\'"`}, {`"\\\\\""`, `'\\\\"'`, `'\\\\"'`}, {`'\x27\''`, `"\x27'"`, `"\x27'"`},
		{`'\x22'`, `"\x22"`, `'\x22'`}, {`"\u0022\u{22}\x27"`, `"\u0022\u{22}\x27"`, `'\u0022\u{22}\x27'`}, {`'\d\\'`, `"\d\\"`, `'\d\\'`},
		// All other spellings stay.
		{"'\\\n'", "\"\\\n\"", "'\\\n'"}, {"'\\\r\n\\\r\\'\\\u2028'", "\"\\\r\n\\\r'\\\u2028\"", "\"\\\r\n\\\r'\\\u2028\""},
		{`"\0\q\a\é\` + "`" + `"`, `"\0\q\a\é\` + "`" + `"`, `'\0\q\a\é\` + "`" + `'`}, {"'\u2028é\U0001f600'", "\"\u2028é\U0001f600\"", "'\u2028é\U0001f600'"},
		{"'`\\u{1F600}\\x4a\\u004A`'", "\"`\\u{1F600}\\x4a\\u004A`\"", "'`\\u{1F600}\\x4a\\u004A`'"}, {"'\x00\t\\\t'", "\"\x00\t\\\t\"", "'\x00\t\\\t'"},
	} {
		checkQuote(t, c.s, false, c.double, api.OK)
		checkQuote(t, c.s, true, c.single, api.OK)
	}
}
