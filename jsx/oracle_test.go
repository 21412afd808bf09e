package jsx_test

import (
	"math/big"
	"regexp"
	"strings"
	"testing"
	"unicode/utf8"

	"platen/api"
	"platen/jsx"
)

// The document's forms.
var (
	entityForm = regexp.MustCompile(`&(?:amp|lt|gt|quot|apos|nbsp|copy|reg|hellip|mdash|ndash|#[0-9]+|#x[0-9a-fA-F]+);`)
	wordForm   = regexp.MustCompile(`[^ \t\n\r]+`)
	endForm    = regexp.MustCompile(`\r\n|\r|\n`)
)

// value is the number that an entity writes, or -1 if it has a name.
func value(entity string) int64 {
	digits, base := entity[2:len(entity)-1], 10
	if entity[1] != '#' {
		return -1
	}
	if digits[0] == 'x' {
		digits, base = digits[1:], 16
	}
	number, _ := new(big.Int).SetString(digits, base)
	if !number.IsInt64() {
		return utf8.MaxRune + 1
	}
	return number.Int64()
}

// replaced is P7.1, read from the document.
func replaced(s string, names map[string]string) (string, int, api.Errno) {
	text, behind := "", 0
	for _, place := range entityForm.FindAllStringIndex(s, -1) {
		entity := s[place[0]:place[1]]
		number := value(entity)
		text += s[behind:place[0]]
		behind = place[1]
		switch {
		case number < 0:
			text += names[entity]
		case number > 0x10FFFF || number >= 0xD800 && number <= 0xDFFF:
			return "", place[0], api.ErrJsxEntity
		default:
			text += string(rune(number))
		}
	}
	return text + s[behind:], 0, api.OK
}

// displayed is P7.3, read from the document.
func displayed(s string) string {
	var kept []string
	all := endForm.Split(s, -1)
	for i, line := range all {
		if i > 0 {
			line = strings.TrimLeft(line, " \t")
		}
		if i < len(all)-1 {
			line = strings.TrimRight(line, " \t")
		}
		if line != "" {
			kept = append(kept, line)
		}
	}
	return strings.Join(kept, " ")
}

// checkConsequences holds P7.4 against s.
func checkConsequences(t *testing.T, s string) {
	t.Helper()
	shown := jsx.Shown(s)
	if jsx.Shown(shown) != shown {
		t.Fatalf("P7.4: Shown(%q) is displayed as %q", s, jsx.Shown(shown))
	}
	ends := strings.ContainsAny(s, "\n\r")
	if ends && strings.Trim(s, " \t\n\r") == "" && shown != "" {
		t.Fatalf("P7.4: of blanks: Shown(%q) = %q", s, shown)
	}
	if !ends && shown != s {
		t.Fatalf("P7.4: without line ends: Shown(%q) = %q", s, shown)
	}
	if strings.Join(jsx.Words(shown), "\n") != strings.Join(jsx.Words(s), "\n") {
		t.Fatalf("P7.4: words of Shown(%q): %q", s, jsx.Words(shown))
	}
}

// checkAll holds all calls against s.
func checkAll(t *testing.T, s string, names map[string]string) {
	t.Helper()
	text, at, code := replaced(s, names)
	checkEntities(t, s, text, at, code)
	checkWords(t, s, wordForm.FindAllString(s, -1))
	checkShown(t, s, displayed(s))
	checkConsequences(t, s)
}

// sequences hands out every sequence of at most count pieces.
func sequences(pieces []string, count int, take func(string)) {
	var grow func(string, int)
	grow = func(s string, left int) {
		take(s)
		for _, piece := range pieces {
			if left > 0 {
				grow(s+piece, left-1)
			}
		}
	}
	grow("", count)
}

func TestSequences(t *testing.T) {
	names := named()
	for _, c := range []struct {
		pieces string
		count  int
	}{
		{"& # x ; 0 9 f D800 110000", 5}, {"&# &#x ; 1 a 4 4294967296 G", 6}, {"&amp; amp; & lt; &#38; # 65; &#x ; &l t", 5},
		{"&hellip &mdash &ndash &nbsp &copy &reg &quot &apos ; s", 4}, {"&#xD800; &#x41; &gt; & ; &#1114112; é \xff \xc3", 5},
	} {
		sequences(strings.Split(c.pieces, " "), c.count, func(s string) { checkAll(t, s, names) })
	}
	blanks := []string{" ", "\t", "\n", "\r", "a"}
	sequences(blanks, 7, func(s string) { checkAll(t, s, names) })
	sequences(append(blanks, "\r\n", "\v", "\u00a0", "\u2028", "\xff", "\x85"), 4, func(s string) { checkAll(t, s, names) })
}

// TestEveryByteInEveryPlace puts each byte into each place of some texts, and
// beside it.
func TestEveryByteInEveryPlace(t *testing.T) {
	names := named()
	texts := []string{"&#65;", "&#x4aF;", "&#xD7FF;", "&#x10FFFF;", "&#1114111;&#x9;", " a\n  b  c \n", "a\r\n\tb ", "\xe2\x80\xa8 \xc2\xa0\n", "&amp;lt;"}
	for name := range names {
		texts = append(texts, name, name+name[1:])
	}
	for _, s := range texts {
		for at := range len(s) + 1 {
			for b := range 256 {
				c := string([]byte{byte(b)})
				checkAll(t, s[:at]+c+s[at:], names)
				if at < len(s) {
					checkAll(t, s[:at]+c+s[at+1:], names)
				}
			}
			checkAll(t, s[:at], names)
			checkAll(t, s[at:], names)
		}
	}
}

// TestCharacters asks of every character between blanks and line ends: only
// four of them part words or lines.
func TestCharacters(t *testing.T) {
	names := named()
	for r := rune(0); r <= utf8.MaxRune; r++ {
		if !utf8.ValidRune(r) {
			continue
		}
		c := string(r)
		text, at, code := replaced("&"+c+"lt;&"+c, names)
		checkEntities(t, "&"+c+"lt;&"+c, text, at, code)
		if strings.Contains(" \t\n\r", c) {
			checkAll(t, c, names)
			checkAll(t, "a "+c+"\n"+c+" b"+c, names)
			continue
		}
		checkShown(t, c, c)
		checkWords(t, c+" a"+c+"b\n"+c, []string{c, "a" + c + "b", c})
		checkShown(t, "\n "+c+" \r"+c, c+" "+c)
	}
}
