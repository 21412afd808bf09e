package uni_test

import (
	"math"
	"strconv"
	"strings"
	"testing"
	"unicode/utf8"

	"platen/api"
	"platen/uni"
)

// The ranges as the document writes them.
const (
	startRanges = "0024, 005F, 0041-005A, 0061-007A, " +
		"00AA, 00B5, 00BA, 00C0-00D6, 00D8-00F6, 00F8-02C1, 0370-0373, 0386, 0388-03FF, 0400-0481, 048A-052F, " +
		"0531-0556, 05D0-05EA, 0620-064A, 0904-0939, 0E01-0E30, 1E00-1FFF, 3041-3096, 30A1-30FA, 3400-4DBF, " +
		"4E00-9FFF, AC00-D7A3, 20000-2A6DF"
	moreRanges  = "0030-0039, 0300-036F, 0483-0487, 0660-0669, 0966-096F, 200C-200D, FF10-FF19"
	endsRanges  = "000A, 000D, 2028, 2029"
	blankRanges = "0009, 000B, 000C, 0020, 00A0, 1680, 2000-200A, 202F, 205F, 3000, FEFF"
	wideRanges  = "1100-115F, 2E80-303E, 3041-33FF, 3400-4DBF, 4E00-9FFF, A000-A4CF, AC00-D7A3, F900-FAFF, " +
		"FE30-FE6F, FF00-FF60, FFE0-FFE6, 1F300-1F64F, 1F900-1F9FF, 20000-3FFFD"
)

const lastRune = 0x10FFFF

// members marks the characters of ranges.
func members(t *testing.T, ranges string) []bool {
	t.Helper()
	marks := make([]bool, lastRune+1)
	for _, piece := range strings.Split(ranges, ", ") {
		low, high, two := strings.Cut(piece, "-")
		if !two {
			high = low
		}
		from, errFrom := strconv.ParseInt(low, 16, 64)
		to, errTo := strconv.ParseInt(high, 16, 64)
		if errFrom != nil || errTo != nil {
			t.Fatalf("bad range %q", piece)
		}
		for r := from; r <= to; r++ {
			marks[r] = true
		}
	}
	return marks
}

// strangers are numbers that are no code points: some of them turn into
// letters, blanks or line terminators where bits are cut off.
func strangers() []int {
	list := []int{math.MinInt, math.MinInt + 'a', math.MaxInt, math.MinInt32, math.MaxInt32, math.MaxInt32 + 1}
	for _, r := range []int{0, 'a', '0', '\n', ' ', 0x20000, lastRune} {
		list = append(list, r+1<<32, r-1<<32, r+1<<31, r+1<<21, r-1<<21, -r-1)
	}
	for r := -0x3000; r < 0; r++ {
		list = append(list, r, lastRune-r)
	}
	return list
}

// checkTable holds a function against a table, for all code points and for
// numbers that are none.
func checkTable(t *testing.T, name string, ask func(int) bool, marks []bool) {
	t.Helper()
	for r, want := range marks {
		if ask(r) != want {
			t.Fatalf("%s(%04X) = %v", name, r, !want)
		}
	}
	for _, r := range strangers() {
		if ask(r) {
			t.Fatalf("%s(%d) = true", name, r)
		}
	}
}

func checkValid(t *testing.T, s string, at int, code api.Errno) {
	t.Helper()
	if gotAt, gotCode := uni.Valid(s); gotAt != at || gotCode != code {
		t.Fatalf("Valid(%x) = %d, %d; want %d, %d", s, gotAt, gotCode, at, code)
	}
}

func TestValidTexts(t *testing.T) {
	for _, s := range []string{
		"", "a", "aé", "añ日", "\x00", "\x7f", "\u0080", "\u07ff", "\u0800", "\ud7ff", "\ue000", "\ufffd", "\ufffe",
		"\uffff", "\U00010000", "\U0010ffff", "x\U0001f600y\u2028z\r\n", strings.Repeat("aé日\U0001f600", 100000),
	} {
		checkValid(t, s, 0, api.OK)
	}
}

func TestValidEveryCharacter(t *testing.T) {
	for r := rune(0); r <= lastRune; r++ {
		if utf8.ValidRune(r) {
			checkValid(t, string(r), 0, api.OK)
		}
	}
}

// Each of these holds no complete character at its beginning.
var malformed = []string{
	// Bytes that begin no character.
	"\x80", "\xbf", "\xbf\x80", "\xf8", "\xf8\x88\x80\x80\x80", "\xfb\xbf\xbf\xbf", "\xfc\x84\x80\x80\x80\x80", "\xfe", "\xff",
	// Truncated characters.
	"\xc3", "\xdf", "\xe6", "\xe6\x97", "\xef\xbf", "\xf0", "\xf0\x9f", "\xf0\x9f\x98", "\xf4\x8f\xbf",
	// Characters with a wrong byte in them.
	"\xc3a", "\xc3\x7f", "\xc3\xc0", "\xc3\xc3\xa9", "\xe6a\xa5", "\xe6\x97a", "\xe6\x97\xc0", "\xe6\xff\xa5",
	"\xf0a\x98\x80", "\xf0\x9fa\x80", "\xf0\x9f\x98a", "\xf0\x9f\x98\xc0", "\xf0\x9f\x98\x7f",
	// Overlong forms.
	"\xc0\x80", "\xc0\xaf", "\xc1\xbf", "\xe0\x80\x80", "\xe0\x81\xbf", "\xe0\x9f\xbf", "\xf0\x80\x80\x80", "\xf0\x8f\xbf\xbf",
	// Surrogates, alone and in pairs.
	"\xed\xa0\x80", "\xed\xad\xbf", "\xed\xae\x80", "\xed\xb0\x80", "\xed\xbf\xbf", "\xed\xa0\xbd\xed\xb8\x80",
	// Code points above 10FFFF.
	"\xf4\x90\x80\x80", "\xf5\x80\x80\x80", "\xf6\xbf\xbf\xbf", "\xf7\xbf\xbf\xbf",
}

func TestValidMalformed(t *testing.T) {
	for _, bad := range malformed {
		for _, ahead := range []string{"", "a", "é", "ab日", "\U0001f600\ufffd", strings.Repeat("日", 1000)} {
			for _, behind := range []string{"", "a", "日", "\xff"} {
				checkValid(t, ahead+bad+behind, len(ahead), api.ErrUniByte)
			}
		}
	}
}

// firstWrong is where the library finds the first wrong byte of s.
func firstWrong(s string) (int, api.Errno) {
	for at := 0; at < len(s); {
		r, size := utf8.DecodeRuneInString(s[at:])
		if r == utf8.RuneError && size == 1 {
			return at, api.ErrUniByte
		}
		at += size
	}
	return 0, api.OK
}

// TestValidShortTexts goes through all texts of a byte, of two bytes, and
// through those of up to four bytes that lie about the borders of the form.
func TestValidShortTexts(t *testing.T) {
	edges := []byte("\x00\x41\x7f\x80\x81\x8f\x90\x97\x9f\xa0\xa5\xbf\xc0\xc3\xe6\xf0\xff")
	check := func(s string) {
		at, code := firstWrong(s)
		checkValid(t, s, at, code)
	}
	for lead := range 256 {
		check(string([]byte{byte(lead)}))
		for second := range 256 {
			pair := []byte{byte(lead), byte(second)}
			check(string(pair))
			for _, third := range edges {
				check(string(append(pair, third)))
			}
		}
		for _, second := range edges {
			for _, third := range edges {
				for _, fourth := range edges {
					check(string([]byte{byte(lead), second, third, fourth}))
				}
			}
		}
	}
}

func TestStart(t *testing.T) {
	checkTable(t, "Start", uni.Start, members(t, startRanges))
}

func TestPart(t *testing.T) {
	checkTable(t, "Part", uni.Part, members(t, startRanges+", "+moreRanges))
}

func TestEnds(t *testing.T) {
	checkTable(t, "Ends", uni.Ends, members(t, endsRanges))
}

func TestBlank(t *testing.T) {
	checkTable(t, "Blank", uni.Blank, members(t, blankRanges))
}

func TestKindsOfSomeCharacters(t *testing.T) {
	for _, c := range []struct {
		r                        int
		start, part, ends, blank bool
	}{
		{'$', true, true, false, false}, {'_', true, true, false, false}, {'#', false, false, false, false},
		{'@', false, false, false, false}, {'A', true, true, false, false}, {'Z', true, true, false, false},
		{'[', false, false, false, false}, {'`', false, false, false, false}, {'a', true, true, false, false},
		{'z', true, true, false, false}, {'{', false, false, false, false}, {'/', false, false, false, false},
		{'0', false, true, false, false}, {'1', false, true, false, false}, {'9', false, true, false, false},
		{':', false, false, false, false}, {'\\', false, false, false, false}, {0xD7, false, false, false, false},
		{'\t', false, false, false, true}, {'\n', false, false, true, false}, {'\v', false, false, false, true},
		{'\f', false, false, false, true}, {'\r', false, false, true, false}, {0x85, false, false, false, false},
		{0x180E, false, false, false, false}, {0x200B, false, false, false, false}, {0x200C, false, true, false, false},
		{0x200D, false, true, false, false}, {0x200E, false, false, false, false}, {0x2028, false, false, true, false},
		{0x2029, false, false, true, false}, {0xFEFF, false, false, false, true}, {0, false, false, false, false},
		{-1, false, false, false, false}, {lastRune, false, false, false, false}, {lastRune + 1, false, false, false, false},
	} {
		if uni.Start(c.r) != c.start || uni.Part(c.r) != c.part || uni.Ends(c.r) != c.ends || uni.Blank(c.r) != c.blank {
			t.Errorf("%04X: Start %v, Part %v, Ends %v, Blank %v", c.r, uni.Start(c.r), uni.Part(c.r), uni.Ends(c.r), uni.Blank(c.r))
		}
	}
}

func TestWidthEveryCharacter(t *testing.T) {
	wide := members(t, wideRanges)
	for r, two := range wide {
		if !utf8.ValidRune(rune(r)) {
			continue
		}
		want := 1
		if two {
			want = 2
		}
		if got := uni.Width(string(rune(r))); got != want {
			t.Fatalf("Width of %04X = %d, want %d", r, got, want)
		}
	}
}

func TestWidthTexts(t *testing.T) {
	for s, want := range map[string]int{
		"": 0, "a": 1, "añ日": 4, "\x00": 1, "\t\r\n": 3, "e\u0301": 2, "\u200d": 1, "\ufffd": 1, "日本語": 6,
		"ア": 2, "ｱ": 1, "Ａ": 2, "\u303e": 2, "\u303f": 1, "\u3040": 1, "\u3041": 2, "\u4dc0": 1, "\U0001f600": 2,
		"\U0001f600\u200d\U0001f600": 5, "\U0003fffd": 2, "\U0003fffe": 1,
		strings.Repeat("a日", 100000): 300000,
	} {
		if got := uni.Width(s); got != want {
			t.Errorf("Width(%q) = %d, want %d", s, got, want)
		}
	}
}

func TestWidthMalformed(t *testing.T) {
	for s, want := range map[string]int{
		"\xff": 1, "\xff\xffa": 3, "a\x80b": 3, "\xe6\x97": 2, "\xe6\x97a": 3, "\xe6\x97日": 4, "日\xe6": 3,
		"日\xe6\x97日": 6, "\xf0\x9f\x98": 3, "\xf0\x9f\x98日": 5, "\xc0\x80": 2, "\xe0\x80\x80": 3, "\xed\xa0\x80": 3,
		"\xed\xa0\xbd\xed\xb8\x80": 6, "\xf4\x90\x80\x80": 4, "\xf0\x86\x97\xa5": 4, "\xf8\x88\x80\x80\x80": 5, "\xc3日": 3,
	} {
		if got := uni.Width(s); got != want {
			t.Errorf("Width(%x) = %d, want %d", s, got, want)
		}
	}
}

func TestWidthIsAdditive(t *testing.T) {
	texts := []string{
		"", "a", "\u0301", "\u200d", "é", "日", "\u303f", "ｱ", "Ａ", "\ufffd", "\U0001f600", "\U0001f3fb", "\U00020000", "\r", "\n",
		"\u1100", "\u1161", "\u11a8", "\ufe0f", "a日\U0001f600", "const 名 = '\U0001f600';\n",
	}
	for _, a := range texts {
		for _, b := range texts {
			if got, sum := uni.Width(a+b), uni.Width(a)+uni.Width(b); got != sum {
				t.Errorf("Width(%q + %q) = %d, the sum %d", a, b, got, sum)
			}
		}
	}
}

func TestKindsExcludeEachOther(t *testing.T) {
	for r := -0x3000; r <= lastRune+0x3000; r++ {
		kinds := 0
		for _, holds := range []bool{uni.Part(r), uni.Ends(r), uni.Blank(r)} {
			if holds {
				kinds++
			}
		}
		if kinds > 1 {
			t.Fatalf("%04X: %d of Part, Ends and Blank", r, kinds)
		}
		if uni.Start(r) && !uni.Part(r) {
			t.Fatalf("%04X: Start, but not Part", r)
		}
	}
}
