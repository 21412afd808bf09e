package jsx_test

import (
	"slices"
	"strconv"
	"strings"
	"testing"
	"time"
	"unicode/utf8"

	"platen/api"
	"platen/jsx"
)

// named are the entities with names, as the document writes them, and the
// characters that it gives for them.
func named() map[string]string {
	names := strings.Fields("&amp; &lt; &gt; &quot; &apos; &nbsp; &copy; &reg; &hellip; &mdash; &ndash;")
	characters := strings.Fields("0026 003C 003E 0022 0027 00A0 00A9 00AE 2026 2014 2013")
	table := map[string]string{}
	for i, name := range names {
		number, _ := strconv.ParseInt(characters[i], 16, 32)
		table[name] = string(rune(number))
	}
	return table
}

func checkEntities(t *testing.T, s, want string, at int, code api.Errno) {
	t.Helper()
	if got, gotAt, gotCode := jsx.Entities(s); got != want || gotAt != at || gotCode != code {
		t.Fatalf("P7.1: Entities(%.200q) = %.200q, %d, %d; want %.200q, %d, %d", s, got, gotAt, gotCode, want, at, code)
	}
}

func checkWords(t *testing.T, s string, want []string) {
	t.Helper()
	if got := jsx.Words(s); !slices.Equal(got, want) {
		t.Fatalf("P7.2: Words(%.200q) = %.200q, want %.200q", s, got, want)
	}
}

func checkShown(t *testing.T, s, want string) {
	t.Helper()
	if got := jsx.Shown(s); got != want {
		t.Fatalf("P7.3: Shown(%.200q) = %.200q, want %.200q", s, got, want)
	}
}

func TestEntitiesWithNames(t *testing.T) {
	for name, c := range named() {
		checkEntities(t, name, c, 0, api.OK)
		checkEntities(t, "a"+name+"b", "a"+c+"b", 0, api.OK)
		checkEntities(t, name+name+"\xff"+name, c+c+"\xff"+c, 0, api.OK)
		checkEntities(t, "&"+name+";"+name+"&", "&"+c+";"+c+"&", 0, api.OK)
		checkEntities(t, "&#"+name+"&#x"+name+"&am"+name, "&#"+c+"&#x"+c+"&am"+c, 0, api.OK)
		// What is replaced is not read again.
		inner := name[1:]
		checkEntities(t, "&amp;"+inner, "&"+inner, 0, api.OK)
		checkEntities(t, "&#38;"+inner, "&"+inner, 0, api.OK)
		checkEntities(t, "&#x26;"+inner, "&"+inner, 0, api.OK)
		checkEntities(t, "&amp"+"&#59;"+inner, "&amp;"+inner, 0, api.OK)
		// What is no entity stays.
		near := []string{inner, strings.ToUpper(name), "&" + strings.ToUpper(inner[:1]) + inner[1:], "& " + inner, "&\x00" + inner, "&#" + inner, "&#x" + inner, "&" + inner[1:],
			name[:len(name)-1] + " ;", name[:len(name)-1] + "s;", name[:len(name)-1] + "\x00;", name[:len(name)-1] + ":", name[:len(name)-2] + ";", "＆" + inner, name[:len(name)-1] + "；"}
		for i := range len(name) {
			near = append(near, name[:i])
		}
		for _, s := range near {
			checkEntities(t, s, s, 0, api.OK)
			checkEntities(t, s+" "+name, s+" "+c, 0, api.OK)
		}
	}
}

func TestEntitiesThatStay(t *testing.T) {
	for _, s := range []string{
		"", "a", ";", "&", "&&", "&;", "&&;;", "& ;", "&#", "&#;", "&#x", "&#x;", "&#X41;", "&x41;", "&#xg;", "&#xx41;", "&#41", "&#x41", "&#4 1;", "&#-41;", "&#+41;", "&#4_1;", "&#4.1;", "&#4e1;",
		"&#4a;", "&#0x41;", "&#x0x41;", "&#x-41;", "&#x+1;", "&#x4_1;", "&#x4 1;", "&#x41 ;", "& #x41;", "&# 65;", "&#65 ;", "&#x4g;", "&#６５;", "&#x\xff;", "&#6\xff5;", "&\xff;", "&65;", "#65;", "&#'65;",
		"&euro;", "&Amp;", "&AMP;", "&shy;", "&nbsp", "&laquo;", "&hellip", "&hellips;", "&thetasym;", "&zwnj;", "&tab;", "&bull;", "&lt ;", "&frac12;", "&quo;", "&#D800;", "&#x110000", "&#55296", "&#99999999999", "&#xD800:",
		"a\nb\r\n\t \u00a0\u2028", "\xff\xc3\xed\xa0\x80", "<A>{é日\U0001f600}", "\x00\\n",
	} {
		checkEntities(t, s, s, 0, api.OK)
	}
}

func TestEntitiesMixed(t *testing.T) {
	for _, c := range []struct{ s, want string }{
		{"&lt;&#65;&#x1F600;&x;&", "<A\U0001f600&x;&"}, {"&amp;amp;amp;", "&amp;amp;"}, {"&amp;#65;", "&#65;"}, {"&#38;#65;", "&#65;"}, {"&#x26;lt;", "&lt;"}, {"&#&#65;", "&#A"},
		{"&#x&#x41;", "&#xA"}, {"&#6&#65;5;", "&#6A5;"}, {"&amp&amp;;", "&amp&;"}, {"&&&amp;&&", "&&&&&"}, {"&&#65;&#;&#66;", "&A&#;B"}, {"&#0;", "\x00"}, {"&#x0;&#00;", "\x00\x00"}, {"&#13;&#10;&#9;", "\r\n\t"},
		{"&#x2028;&#8233;", "\u2028\u2029"}, {"&#xfeFF;", "\ufeff"}, {"&#xaAbB;", "\uaabb"}, {"&#xd7ff;&#xe000;", "\ud7ff\ue000"}, {"&#55295;&#57344;", "\ud7ff\ue000"}, {"&#1114111;", "\U0010ffff"},
		{"&#x10FFFF;", "\U0010ffff"}, {"&#x0010FFFF;&#0001114111;", "\U0010ffff\U0010ffff"}, {"&#xFFFD;", "\ufffd"}, {"\xff&#xE9;\xff", "\xffé\xff"}, {"\xc3&#xA9;", "\xc3\u00a9"}, {"&#xc3;\xa9", "Ã\xa9"},
		{"&#x41;;&#65;;", "A;A;"}, {"&lt;;&gt", "<;&gt"}, {"é&lt;日&gt;\U0001f600", "é<日>\U0001f600"}, {"&#x00000000000000000000000000000041;", "A"}, {"&#xffff;&#65535;", "\uffff\uffff"},
	} {
		checkEntities(t, c.s, c.want, 0, api.OK)
	}
}

func TestEntitiesWithoutCharacter(t *testing.T) {
	for _, c := range []struct {
		s  string
		at int
	}{
		{"a&#xD800;", 1}, {"&#xD800;", 0}, {"&#xdfff;", 0}, {"&#55296;", 0}, {"&#57343;", 0}, {"&#x110000;", 0}, {"&#1114112;", 0}, {"&#x0000D800;", 0}, {"&#0055296;", 0}, {"é&#xDBFF;", 2}, {"\xff\xff&#xDC00;", 2},
		// Numbers that come to a character where bits are cut off.
		{"&#4294967361;", 0}, {"&#x100000041;", 0}, {"&#18446744073709551681;", 0}, {"&#x10000000000000041;", 0}, {"&#340282366920938463463374607431768211521;", 0}, {"&#x80000041;", 0}, {"&#2147483713;", 0},
		{"&#4294967295;", 0}, {"&#xFFFFFFFF;", 0}, {"&#99999999999999999999999999999999;", 0}, {"&#xfffffffffffffffffffffffff;", 0}, {"&#65536000;", 0}, {"&#11141110;", 0}, {"&#x10FFFF0;", 0},
		// The first one, behind what is none.
		{"&lt;&#xD800;&#xD801;", 4}, {"&#65;&#x110000;", 5}, {"&#xD800&#xD800;", 7}, {"&#xD800&;&#x110000;&#xD800;", 9}, {"&&#xD800;", 1}, {"&amp;#xD800;&#xD800;", 12}, {"&#&#x&#xD800;", 5}, {"&#xD83D;&#xDE00;", 0},
		{"&#x10FFFF;&#x110000;&lt;", 10}, {"&nbsp;\n&#1114112;", 7},
	} {
		checkEntities(t, c.s, "", c.at, api.ErrJsxEntity)
	}
}

// TestEveryNumber goes through all numbers up to some that are too great, in
// several spellings.
func TestEveryNumber(t *testing.T) {
	for number := range int(utf8.MaxRune) + 0x1000 {
		hexadecimal := strconv.FormatInt(int64(number), 16)
		for _, s := range []string{"&#" + strconv.Itoa(number) + ";", "&#x" + hexadecimal + ";", "&#x0" + strings.ToUpper(hexadecimal) + ";"} {
			if utf8.ValidRune(rune(number)) {
				checkEntities(t, s, string(rune(number)), 0, api.OK)
			} else {
				checkEntities(t, s, "", 0, api.ErrJsxEntity)
			}
		}
	}
}

func TestWords(t *testing.T) {
	for _, c := range []struct {
		s    string
		want []string
	}{
		{"", nil}, {" ", nil}, {" \t\n\r", nil}, {"a", []string{"a"}}, {" a ", []string{"a"}}, {"a b", []string{"a", "b"}}, {"a\tb\nc\rd\r\ne", []string{"a", "b", "c", "d", "e"}}, {"  ab \r\n\t cd  a", []string{"ab", "cd", "a"}},
		{"b a b", []string{"b", "a", "b"}}, {"a\vb\fc", []string{"a\vb\fc"}}, {"a\u00a0b \u2028 \ufeffc", []string{"a\u00a0b", "\u2028", "\ufeffc"}}, {"\x00 \x85 \x1f\x21", []string{"\x00", "\x85", "\x1f!"}},
		{"\xff \xc3 \xa9\n\xe2\x80", []string{"\xff", "\xc3", "\xa9", "\xe2\x80"}}, {"é\t日本 \U0001f600", []string{"é", "日本", "\U0001f600"}}, {"&nbsp; &#32;\n&", []string{"&nbsp;", "&#32;", "&"}}, {"\u2009\u3000\u1680", []string{"\u2009\u3000\u1680"}},
	} {
		checkWords(t, c.s, c.want)
	}
}

// TestAnswersAreNew changes a list that was handed out, and asks again.
func TestAnswersAreNew(t *testing.T) {
	first := jsx.Words("a b\nc")
	for i := range first[:cap(first)] {
		first[:cap(first)][i] = "x"
	}
	checkWords(t, "a b\nc", []string{"a", "b", "c"})
}

func TestShown(t *testing.T) {
	for _, c := range []struct{ s, want string }{
		{" a\n  b  c \n", " a b  c"}, {"\n \n", ""}, {" a ", " a "}, {"", ""}, {" ", " "}, {" \t", " \t"}, {"a", "a"}, {"\n", ""}, {"\r", ""}, {"\r\n", ""}, {" \n", ""}, {"\n ", ""}, {" \n ", ""}, {"\t\r\t", ""},
		// Blanks at the beginning of the first line and at the end of the last one stay.
		{" a\nb ", " a b "}, {"\t a \t\n\t b \t", "\t a b \t"}, {" a \n", " a"}, {"\n a ", "a "}, {" a\n ", " a"}, {" \n a \n ", "a"}, {" a \n b \n c ", " a b c "}, {"\na\n", "a"}, {"\n a  b \n", "a  b"},
		// Lines ended in each way.
		{"a\nb\rc\r\nd", "a b c d"}, {"a\n\nb", "a b"}, {"a\r\rb", "a b"}, {"a\r\n\r\nb", "a b"}, {"a\n\rb", "a b"}, {"a \r\n b", "a b"}, {"a\r \nb", "a b"}, {"\r\na\r\n", "a"}, {"a\r\n", "a"}, {"\n\n\n \n\r\r\na", "a"},
		{"a\n \t \n\n\r\t\r\n  b", "a b"}, {"a\n\nb\n\n\nc", "a b c"},
		// Blanks within a line, and what is no blank and ends no line.
		{"a \t b\nc", "a \t b c"}, {"a\u00a0\n\u00a0b", "a\u00a0 \u00a0b"}, {"a\v\n\fb", "a\v \fb"}, {"a\u2028\nb\u2029c", "a\u2028 b\u2029c"}, {"\u00a0\n\u3000", "\u00a0 \u3000"}, {"\ufeff\n\x00\n\x85", "\ufeff \x00 \x85"}, {"a\x85b", "a\x85b"},
		{"\xff \n \xc3\n\xa9", "\xff \xc3 \xa9"}, {"é\n日本\n\U0001f600", "é 日本 \U0001f600"}, {"a\\n\nb", "a\\n b"}, {"a\n&#32;&nbsp;\nb", "a &#32;&nbsp; b"}, {"a&#10;b\n", "a&#10;b"},
	} {
		checkShown(t, c.s, c.want)
	}
}

// TestSizes asks of texts of a megabyte, also of such that break off again and
// again.
func TestSizes(t *testing.T) {
	const size = 1 << 20
	begun := time.Now()
	for _, piece := range []string{"&", "&#", "&#x", "&#1", "&#xf", "&am", "&hellip", ";", "a", "\xff", "& "} {
		s := strings.Repeat(piece, size/len(piece))
		checkEntities(t, s, s, 0, api.OK)
		checkEntities(t, s+"-&#xD800;", "", len(s)+1, api.ErrJsxEntity)
	}
	for name, c := range named() {
		count := size / len(name)
		checkEntities(t, strings.Repeat(name, count), strings.Repeat(c, count), 0, api.OK)
	}
	for _, digits := range []string{"&#", "&#x"} {
		checkEntities(t, digits+strings.Repeat("0", size)+"9;", "\t", 0, api.OK)
		checkEntities(t, digits+strings.Repeat("9", size)+";", "", 0, api.ErrJsxEntity)
		checkEntities(t, digits+strings.Repeat("9", size), digits+strings.Repeat("9", size), 0, api.OK)
	}
	checkEntities(t, strings.Repeat("&#x10ffff;", size/10), strings.Repeat("\U0010ffff", size/10), 0, api.OK)
	for _, end := range []string{"\n", "\r", "\r\n", " \n", "\n\t"} {
		count := size / 4
		checkShown(t, strings.Repeat(end, count), "")
		checkShown(t, strings.Repeat(end+"a", count), strings.Repeat(" a", count)[1:])
		checkShown(t, strings.Repeat("a"+end, count)+"b", strings.Repeat("a ", count)+"b")
		checkWords(t, strings.Repeat("a"+end, count), slices.Repeat([]string{"a"}, count))
		checkWords(t, strings.Repeat(end, count), nil)
	}
	blanks := strings.Repeat(" \t", size/2)
	checkShown(t, blanks, blanks)
	checkShown(t, blanks+"\n"+blanks, "")
	checkShown(t, blanks+"a"+blanks+"\n"+blanks+"b"+blanks, blanks+"a b"+blanks)
	if took := time.Since(begun); took > 20*time.Second {
		t.Errorf("took %v", took)
	}
}
