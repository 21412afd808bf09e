package word_test

import (
	"strings"
	"testing"
	"time"
	"unicode/utf8"

	"platen/uni"
	"platen/word"
)

// The words and operators as the document writes them.
const (
	reservedWords = "break case catch class const continue debugger default delete do else enum export extends false finally " +
		"for function if implements import in instanceof interface let new null package private protected public return static " +
		"super switch this throw true try typeof var void while with yield"
	levelTable = "?? 1, || 2, && 3, | 4, ^ 5, & 6, == != === !== 7, < > <= >= in instanceof 8, << >> >>> 9, + - 10, * / % 11, ** 12"
)

// levels reads the table of operators.
func levels(t *testing.T) map[string]int {
	t.Helper()
	table := map[string]int{}
	for i, row := range strings.Split(levelTable, ", ") {
		ops := strings.Fields(row)
		for _, op := range ops[:len(ops)-1] {
			table[op] = i + 1
		}
	}
	if len(table) != 25 {
		t.Fatalf("%d operators", len(table))
	}
	return table
}

// reserved reads the list of words.
func reserved() map[string]bool {
	set := map[string]bool{}
	for _, s := range strings.Fields(reservedWords) {
		set[s] = true
	}
	return set
}

// oddTexts are texts that are near to words and operators, or to nothing.
func oddTexts() []string {
	list := []string{"", " ", "\x00", "\xff", "\u2028", "é", "日本", "await", "async", "of", "get", "set", "from", "as", "eval", "arguments",
		"undefined", "target", "meta", "constructor", "prototype", "NaN", "boolean", "native", "abstract", "=", "+=", "=>", "...", "?", "?.", "!", "~",
		"++", "--", "(", ")", ",", ".", ";", ":", "delete ", "&&=", "||=", "??=", "**=", ">>>=", "<<=", "====", "!===", "<<<", ">>>>", "***", "???",
		"is", "not in", "in\x00", "\ufeffin", "i\u0307n", "ın", "ﬁnally", "ｉｎ", "cla\u017f\u017f"}
	for _, s := range strings.Fields(reservedWords + " await ?? || && == != === !== <= >= << >> >>> ** instanceof") {
		list = append(list, strings.ToUpper(s), strings.ToUpper(s[:1])+s[1:], s+" ", " "+s, s+"\n", s+"\x00", "\x00"+s, s+s, s+"=", "#"+s, s+"\xff", "\xff"+s, s+"\u200d", "$"+s, s+"_", s+"1")
		for i := range len(s) {
			list = append(list, s[:i], s[i+1:], s[:i]+s[i+1:], s[:i]+s[i:i+1]+s[i:])
		}
	}
	return list
}

// shortTexts calls ask with every text of at most size pieces.
func shortTexts(pieces []string, size int, ask func(string)) {
	var grow func(string, int)
	grow = func(s string, left int) {
		ask(s)
		if left == 0 {
			return
		}
		for _, piece := range pieces {
			grow(s+piece, left-1)
		}
	}
	grow("", size)
}

// checkReserved holds Reserved to the document's list for s.
func checkReserved(t *testing.T, s string, set map[string]bool) {
	t.Helper()
	if got := word.Reserved(s, false); got != set[s] {
		t.Fatalf("P6.2: Reserved(%q, false) = %v", s, got)
	}
	if got := word.Reserved(s, true); got != (set[s] || s == "await") {
		t.Fatalf("P6.2: Reserved(%q, true) = %v", s, got)
	}
}

func TestReserved(t *testing.T) {
	set := reserved()
	if len(set) != 45 {
		t.Fatalf("%d words", len(set))
	}
	for s := range set {
		checkReserved(t, s, set)
	}
	for _, s := range oddTexts() {
		checkReserved(t, s, set)
	}
	for op := range levels(t) {
		checkReserved(t, op, set)
	}
	letters := strings.Split("abcdefghijklmnopqrstuvwxyz", "")
	shortTexts(letters, 4, func(s string) { checkReserved(t, s, set) })
	everyByte(reservedWords, func(s string) { checkReserved(t, s, set) })
	everyByte("await", func(s string) { checkReserved(t, s, set) })
}

// everyByte calls ask with each word of list, with every byte in every place.
func everyByte(list string, ask func(string)) {
	for _, s := range strings.Fields(list) {
		for i := range len(s) {
			for b := range 256 {
				ask(s[:i] + string([]byte{byte(b)}) + s[i+1:])
			}
		}
	}
}

// checkLevel holds Level and Right to the document's table for s.
func checkLevel(t *testing.T, s string, table map[string]int) {
	t.Helper()
	if got := word.Level(s); got != table[s] {
		t.Fatalf("P6.3: Level(%q) = %d, want %d", s, got, table[s])
	}
	if got := word.Right(s); got != (s == "**") {
		t.Fatalf("P6.3: Right(%q) = %v", s, got)
	}
}

func TestLevel(t *testing.T) {
	table := levels(t)
	for op := range table {
		checkLevel(t, op, table)
	}
	for s := range reserved() {
		checkLevel(t, s, table)
	}
	for _, s := range oddTexts() {
		checkLevel(t, s, table)
	}
	signs := strings.Split("?|&^=!<>+-*/%~.,:", "")
	shortTexts(signs, 4, func(s string) { checkLevel(t, s, table) })
	everyByte("?? || && | ^ & == != === !== < > <= >= in instanceof << >> >>> + - * / % **", func(s string) { checkLevel(t, s, table) })
}

// isName is P6.1, read from the document.
func isName(s string) bool {
	if s == "" || !utf8.ValidString(s) {
		return false
	}
	runes := []rune(s)
	for _, r := range runes[1:] {
		if !uni.Part(int(r)) {
			return false
		}
	}
	return uni.Start(int(runes[0]))
}

// checkName holds Name to P6.1 for s.
func checkName(t *testing.T, s string) {
	t.Helper()
	if got := word.Name(s); got != isName(s) {
		t.Fatalf("P6.1: Name(%q) = %v", s, got)
	}
}

func TestName(t *testing.T) {
	for _, s := range []string{"a", "Z", "$", "_", "$_1é", "a0", "日本", "a\u200d", "a\u0300", "x٠", "\U00020000", "a\U0002A6DF", "if", "await", "async", "µ", "가"} {
		if !word.Name(s) {
			t.Errorf("P6.1: Name(%q) = false", s)
		}
	}
	for _, s := range []string{"", "1", "1a", "9", "a-b", " a", "a ", "a.b", "#a", "a\xff", "\xff", "\xffa", "a\xe9", "\uFFFD", "a\uFFFD", "\u200d", "\u0300a", "٠", "a\u2028",
		"\\u0061", "a\\u0061", "a\x00", "\x00", "\ufeffa", "a\ufeff", "×", "a×", "\xc1\xa1", "a\xc1\xa1", "\xed\xa0\x80", "a\xed\xa0\x80", "a\xe6\x97", "日\xe6\x97", "a\xf4\x90\x80\x80", "😀", "a😀", "??", "**"} {
		if word.Name(s) {
			t.Errorf("P6.1: Name(%q) = true", s)
		}
	}
	for _, s := range oddTexts() {
		checkName(t, s)
	}
}

// TestNameCharacters asks of every character at the beginning, in the middle,
// and at the end.
func TestNameCharacters(t *testing.T) {
	for r := rune(0); r <= utf8.MaxRune; r++ {
		if !utf8.ValidRune(r) {
			continue
		}
		s := string(r)
		if got := word.Name(s); got != uni.Start(int(r)) {
			t.Fatalf("P6.1: Name(%q) = %v", s, got)
		}
		part := uni.Part(int(r))
		if word.Name("a"+s) != part || word.Name("é"+s+"1") != part || word.Name(s+"a") != uni.Start(int(r)) {
			t.Fatalf("P6.1: names with %q", s)
		}
	}
}

// TestNameBytes asks of all texts of few bytes that begin, go on with, or
// break off a character.
func TestNameBytes(t *testing.T) {
	pieces := strings.Split("a 1 $ - \x00 \x7f \x80 \xa0 \xa1 \xbf \xc1 \xc3 \xcc \xe0 \xe4 \xed \xef \xf0 \xf4 \xff", " ")
	shortTexts(pieces, 4, func(s string) { checkName(t, s) })
	everyByte("a1 é1 日本a \U00020000b $a\u200d", func(s string) { checkName(t, s) })
}

// TestSizes asks of texts of a megabyte.
func TestSizes(t *testing.T) {
	const size = 1 << 20
	begun := time.Now()
	long := strings.Repeat("a", size)
	wide := strings.Repeat("龥", size/3)
	if !word.Name(long) || !word.Name(wide) || word.Name(long+"-") || word.Name("1"+long) || word.Name(wide+"\xff") || word.Name(wide+"\xe9\xbe") {
		t.Error("P6.1: long names")
	}
	for _, s := range []string{long, "in" + long, strings.Repeat("*", size), strings.Repeat("in", size/2)} {
		if word.Reserved(s, true) || word.Level(s) != 0 || word.Right(s) {
			t.Error("P6.2, P6.3: long texts")
		}
	}
	if took := time.Since(begun); took > 10*time.Second {
		t.Errorf("took %v", took)
	}
}

// TestConsequences holds the calls against each other.
func TestConsequences(t *testing.T) {
	for s := range reserved() {
		if !word.Name(s) {
			t.Errorf("P6.4: %q is no name", s)
		}
	}
	if !word.Name("await") {
		t.Error("P6.4: await is no name")
	}
	right := map[int]bool{}
	table := levels(t)
	for op := range table {
		right[word.Level(op)] = word.Right(op)
	}
	for op := range table {
		if word.Right(op) != right[word.Level(op)] {
			t.Errorf("P6.4: %q is grouped otherwise than others of its level", op)
		}
	}
	for s := range reserved() {
		operator := s == "in" || s == "instanceof"
		if (word.Level(s) != 0) != operator {
			t.Errorf("P6.3: Level(%q) = %d", s, word.Level(s))
		}
	}
}
