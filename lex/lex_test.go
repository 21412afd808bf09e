package lex_test

import (
	"slices"
	"strings"
	"testing"
	"time"

	"platen/api"
	"platen/lex"
)

// took is the answer of a call that reads the piece of s from from to to.
func took(s string, kind, from, to int) answer {
	return answer{token: api.Token{Kind: kind, Text: s[from:to], From: from, To: to}}
}

func TestDocument(t *testing.T) {
	comment := "a /*\n*/ b"
	behind := took(comment, api.TokName, 8, 9)
	behind.token.Line = true
	behind.comments = []api.Comment{{Kind: api.BlockComment, Text: "/*\n*/", From: 2, To: 7}}
	for _, c := range []struct {
		s        string
		at, goal int
		want     answer
	}{
		{comment, 1, api.GoalDiv, behind},
		{"/a[/]/g", 0, api.GoalRegex, took("/a[/]/g", api.TokRegex, 0, 7)},
		{"/=", 0, api.GoalDiv, took("/=", api.TokPunct, 0, 2)},
		{"3in", 0, api.GoalDiv, answer{code: api.ErrLexNumber}},
		{"a?.5:1", 1, api.GoalDiv, took("a?.5:1", api.TokPunct, 1, 2)},
		{"\\u0061", 0, api.GoalDiv, answer{code: api.ErrLexEscape}},
		{"}b`", 0, api.GoalTail, took("}b`", api.TokTail, 0, 3)},
		{"x<", 0, api.GoalChild, took("x<", api.TokChild, 0, 1)},
		{"a-b=", 0, api.GoalTag, took("a-b=", api.TokName, 0, 3)},
	} {
		if got := ask(c.s, c.at, c.goal); !got.same(c.want) {
			t.Errorf("P5.1: Next(%q, %d, %d): %+v, want %+v", c.s, c.at, c.goal, got, c.want)
		}
	}
}

// TestTokens tells, for each goal, a token at the beginning of a text.
func TestTokens(t *testing.T) {
	div, regex, tail, child, tag := api.GoalDiv, api.GoalRegex, api.GoalTail, api.GoalChild, api.GoalTag
	for _, c := range []struct {
		s          string
		goal, kind int
		text       string
	}{
		{"", div, api.TokEnd, ""}, {"", regex, api.TokEnd, ""}, {"", child, api.TokEnd, ""}, {"", tag, api.TokEnd, ""},
		{"$_a9", div, api.TokName, "$_a9"}, {"日本 ", regex, api.TokName, "日本"}, {"a\u0300-", div, api.TokName, "a\u0300"},
		{"a\\u0061", div, api.TokName, "a"}, {"if(", div, api.TokName, "if"}, {"a-b", div, api.TokName, "a"},
		{"#a.b", div, api.TokPrivate, "#a"}, {"#if", regex, api.TokPrivate, "#if"},
		{"0", div, api.TokNum, "0"}, {"0xe+1", div, api.TokNum, "0xe"}, {"1e+1+1", div, api.TokNum, "1e+1"},
		{"1n.a", div, api.TokNum, "1n"}, {"1.5.5", div, api.TokNum, "1.5"}, {"1e5.5", div, api.TokNum, "1e5"}, {"0B1n;", div, api.TokNum, "0B1n"},
		{"1.E-2]", div, api.TokNum, "1.E-2"}, {".0e1)", div, api.TokNum, ".0e1"}, {"1_0.0_1", div, api.TokNum, "1_0.0_1"}, {"5.٠", div, api.TokNum, "5."},
		{"'\u2028'", div, api.TokStr, "'\u2028'"}, {`"'"'`, div, api.TokStr, `"'"`}, {`'\\'\'`, div, api.TokStr, `'\\'`}, {"'\\\n'", regex, api.TokStr, "'\\\n'"},
		{"/ /", div, api.TokPunct, "/"}, {"/=/", regex, api.TokRegex, "/=/"}, {"/a/gимя-", regex, api.TokRegex, "/a/gимя"}, {`/\//`, regex, api.TokRegex, `/\//`},
		{`/[[/]/`, regex, api.TokRegex, `/[[/]/`}, {`/]/`, regex, api.TokRegex, `/]/`}, {`/(/`, regex, api.TokRegex, `/(/`},
		{"``", div, api.TokQuasi, "``"}, {"`$`", div, api.TokQuasi, "`$`"}, {"`$${a", div, api.TokHead, "`$${"}, {"`\\${\\``", div, api.TokQuasi, "`\\${\\``"},
		{"`$\\{`", div, api.TokQuasi, "`$\\{`"}, {"`a}`", div, api.TokQuasi, "`a}`"},
		{"}`", tail, api.TokTail, "}`"}, {"} /*${", tail, api.TokMiddle, "} /*${"}, {"}}\\`\\${`", tail, api.TokTail, "}}\\`\\${`"}, {"}", div, api.TokPunct, "}"},
		{"a b\n\\'`/*", child, api.TokChild, "a b\n\\'`/*"}, {"//{", child, api.TokChild, "//"}, {"{{", child, api.TokPunct, "{"}, {"<<", child, api.TokPunct, "<"},
		{"a>", child, api.TokChild, "a"}, {"é}", child, api.TokChild, "é"},
		{"a--", tag, api.TokName, "a--"}, {"a:b", tag, api.TokName, "a"}, {`"\"`, tag, api.TokAttr, `"\"`}, {"'>\n\"'", tag, api.TokAttr, "'>\n\"'"}, {"''", tag, api.TokAttr, "''"},
		{"<<", tag, api.TokPunct, "<"}, {">=", tag, api.TokPunct, ">"}, {"/>", tag, api.TokPunct, "/"}, {"{", tag, api.TokPunct, "{"}, {"==", tag, api.TokPunct, "="},
		{"...", tag, api.TokPunct, "."}, {".5", tag, api.TokPunct, "."}, {"::", tag, api.TokPunct, ":"},
		{"?.5", div, api.TokPunct, "?"}, {"?.", div, api.TokPunct, "?."}, {"?.a", div, api.TokPunct, "?."}, {"??.5", div, api.TokPunct, "??"}, {"????=", div, api.TokPunct, "??"},
		{"..5", div, api.TokPunct, "."}, {"...5", div, api.TokPunct, "..."}, {"-->", div, api.TokPunct, "--"}, {"<!--", div, api.TokPunct, "<"}, {"=>=", div, api.TokPunct, "=>"},
	} {
		want := answer{token: api.Token{Kind: c.kind, Text: c.text, To: len(c.text)}}
		if got := ask(c.s, 0, c.goal); !got.same(want) {
			t.Errorf("P5.1: Next(%q, 0, %d): %+v, want %+v", c.s, c.goal, got, want)
		}
	}
}

func TestGaps(t *testing.T) {
	type comment = api.Comment
	for _, c := range []struct {
		s        string
		goal     int
		kind     int
		from     int
		line     bool
		comments []comment
	}{
		{" \t\v\f\u00a0\u1680\u3000\ufeffa", api.GoalDiv, api.TokName, 15, false, nil},
		{"\ra", api.GoalDiv, api.TokName, 1, true, nil}, {"\u2029a", api.GoalTag, api.TokName, 3, true, nil}, {"\r\n", api.GoalRegex, api.TokEnd, 2, true, nil},
		{"/**/a", api.GoalRegex, api.TokName, 4, false, []comment{{Kind: api.BlockComment, Text: "/**/", To: 4}}},
		{"/*/*/a", api.GoalDiv, api.TokName, 5, false, []comment{{Kind: api.BlockComment, Text: "/*/*/", To: 5}}},
		{"/*\u2028*/a", api.GoalDiv, api.TokName, 7, true, []comment{{Kind: api.BlockComment, Text: "/*\u2028*/", To: 7}}},
		{"//", api.GoalDiv, api.TokEnd, 2, false, []comment{{Kind: api.LineComment, Text: "//", To: 2}}},
		{"///*\u2028a", api.GoalTag, api.TokName, 7, true, []comment{{Kind: api.LineComment, Text: "///*", To: 4}}},
		{"//a \r\n#a", api.GoalDiv, api.TokPrivate, 6, true, []comment{{Kind: api.LineComment, Text: "//a ", To: 4}}},
		{"#!/a b", api.GoalTag, api.TokEnd, 6, false, []comment{{Kind: api.Hashbang, Text: "#!/a b", To: 6}}},
		{"/*a*//*b*/ //c\n/", api.GoalDiv, api.TokPunct, 15, true, []comment{
			{Kind: api.BlockComment, Text: "/*a*/", To: 5}, {Kind: api.BlockComment, Text: "/*b*/", From: 5, To: 10}, {Kind: api.LineComment, Text: "//c", From: 11, To: 14}}},
	} {
		got := ask(c.s, 0, c.goal)
		want := answer{api.Token{Kind: c.kind, Text: c.s[c.from:], From: c.from, To: len(c.s), Line: c.line}, c.comments, 0, api.OK}
		if !got.same(want) {
			t.Errorf("P5.1: Next(%q, 0, %d): %+v, want %+v", c.s, c.goal, got, want)
		}
	}
}

func TestFaults(t *testing.T) {
	div, regex, tail, child, tag := api.GoalDiv, api.GoalRegex, api.GoalTail, api.GoalChild, api.GoalTag
	for _, c := range []struct {
		s              string
		at, goal, want int
		code           api.Errno
	}{
		{"", -1, 0, 0, api.ErrLexPlace}, {"", 1, 9, 0, api.ErrLexPlace}, {"a", -1 << 63, div, 0, api.ErrLexPlace}, {"a", 1<<63 - 1, div, 0, api.ErrLexPlace},
		{"\xff", 0, 0, 0, api.ErrLexGoal}, {"a", 0, 6, 0, api.ErrLexGoal}, {"a", 1, -1, 0, api.ErrLexGoal}, {"a", 0, 1 << 62, 0, api.ErrLexGoal},
		{"a}", 0, tail, 0, api.ErrLexGoal}, {" }", 0, tail, 0, api.ErrLexGoal}, {"}", 1, tail, 0, api.ErrLexGoal}, {"\xff}", 0, tail, 0, api.ErrLexGoal},

		{" \xff", 0, div, 1, api.ErrLexByte}, {"\xe2\x80", 0, tag, 0, api.ErrLexByte}, {"日", 1, regex, 1, api.ErrLexByte}, {"日", 2, child, 2, api.ErrLexByte},
		{"//\xff\n", 0, div, 2, api.ErrLexByte}, {"#!é\xff\n", 0, div, 4, api.ErrLexByte}, {"/* \xff */", 0, regex, 3, api.ErrLexByte}, {"//\xff\n", 0, child, 2, api.ErrLexByte},
		{"×", 0, div, 0, api.ErrLexByte}, {" @", 0, regex, 1, api.ErrLexByte}, {"\x00", 0, div, 0, api.ErrLexByte}, {"٠", 0, tag, 0, api.ErrLexByte}, {"\u200d", 0, div, 0, api.ErrLexByte},
		{"a\xff", 0, div, 1, api.ErrLexByte}, {"a-\xff", 0, tag, 2, api.ErrLexByte}, {"#\xff", 0, div, 1, api.ErrLexByte}, {"#a\xff", 0, div, 2, api.ErrLexByte},
		{"1\xff", 0, div, 1, api.ErrLexByte}, {"1.\xff", 0, div, 2, api.ErrLexByte}, {".5\xff", 0, div, 2, api.ErrLexByte}, {"0x1\xff", 0, div, 3, api.ErrLexByte},
		{"/a/\xff", 0, regex, 3, api.ErrLexByte}, {"/a/g\xff", 0, regex, 4, api.ErrLexByte}, {"/a\xff", 0, regex, 2, api.ErrLexByte}, {"/[\\\xff", 0, regex, 3, api.ErrLexByte},
		{"`\\\xff", 0, div, 2, api.ErrLexByte}, {"}\xff", 0, tail, 1, api.ErrLexByte}, {"x\xff", 0, child, 1, api.ErrLexByte}, {"'\xff'", 0, tag, 1, api.ErrLexByte},
		{"'\\\xff'", 0, div, 2, api.ErrLexByte}, {"'\\u{110000\xff", 0, div, 10, api.ErrLexByte}, {"#", 0, tag, 0, api.ErrLexByte}, {"#\xff", 0, tag, 0, api.ErrLexByte},
		{"`", 0, tag, 0, api.ErrLexByte}, {"?", 0, tag, 0, api.ErrLexByte}, {"-", 0, tag, 0, api.ErrLexByte}, {"5", 0, tag, 0, api.ErrLexByte}, {"}", 0, child, 0, api.ErrLexByte}, {">", 0, child, 0, api.ErrLexByte},
		{" \\", 0, regex, 1, api.ErrLexEscape}, {"/**/\\u{61}", 0, tag, 4, api.ErrLexEscape},

		{"/*", 0, div, 0, api.ErrLexComment}, {"/*/", 0, regex, 0, api.ErrLexComment}, {"/**/ /* *", 0, tag, 5, api.ErrLexComment}, {"/*\n", 0, div, 0, api.ErrLexComment},
		{"`\\`", 0, div, 0, api.ErrLexTemplate}, {" `$", 0, regex, 1, api.ErrLexTemplate}, {"a}$ {", 1, tail, 1, api.ErrLexTemplate}, {"`\\", 0, div, 0, api.ErrLexTemplate}, {"}", 0, tail, 0, api.ErrLexTemplate},
		{"#", 0, div, 0, api.ErrLexName}, {" #1", 0, div, 1, api.ErrLexName}, {" #!", 0, regex, 1, api.ErrLexName}, {"#!\n#!", 0, div, 3, api.ErrLexName}, {"##a", 0, div, 0, api.ErrLexName}, {"#\\u0061", 0, div, 0, api.ErrLexName}, {"#×", 0, div, 0, api.ErrLexName},

		{"00", 0, div, 0, api.ErrLexNumber}, {"08.5", 0, div, 0, api.ErrLexNumber}, {"1__0", 0, div, 0, api.ErrLexNumber}, {"0_1", 0, div, 0, api.ErrLexNumber}, {"1é", 0, div, 0, api.ErrLexNumber}, {"1$", 0, div, 0, api.ErrLexNumber},
		{"1e", 0, div, 0, api.ErrLexNumber}, {"1e+", 0, div, 0, api.ErrLexNumber}, {".5n", 0, div, 0, api.ErrLexNumber}, {"1._5", 0, div, 0, api.ErrLexNumber}, {"1.e", 0, div, 0, api.ErrLexNumber}, {"0b2", 0, div, 0, api.ErrLexNumber},
		{"1e1234567890", 0, div, 0, api.ErrLexNumber}, {"0xg", 0, div, 0, api.ErrLexNumber}, {"1n5", 0, div, 0, api.ErrLexNumber}, {"0xeN", 0, div, 0, api.ErrLexNumber}, {"1e\xff", 0, div, 0, api.ErrLexNumber}, {"0x\xff", 0, div, 0, api.ErrLexNumber}, {"1日", 0, div, 0, api.ErrLexNumber},

		{" 'a", 0, div, 3, api.ErrLexString}, {"'a\r'", 0, div, 2, api.ErrLexString}, {"'\\\n\n'", 0, div, 3, api.ErrLexString}, {"'\\\n\r'", 0, div, 3, api.ErrLexString}, {"'\\\r\n\n'", 0, div, 4, api.ErrLexString},
		{"'\\q\\xz\xff'", 0, div, 5, api.ErrLexString}, {"'\\1'", 0, div, 2, api.ErrLexString}, {"'\\u{110000}'", 0, div, 10, api.ErrLexString}, {"'\\'", 0, div, 3, api.ErrLexString}, {"'\"", 0, div, 2, api.ErrLexString},
		{" \"a'", 0, tag, 1, api.ErrLexString}, {"'", 0, tag, 0, api.ErrLexString},

		{"/", 0, regex, 0, api.ErrLexRegex}, {" /a", 0, regex, 1, api.ErrLexRegex}, {"/a\r/", 0, regex, 0, api.ErrLexRegex}, {"/[\u2028]/", 0, regex, 0, api.ErrLexRegex}, {"/\\\u2029/", 0, regex, 0, api.ErrLexRegex},
		{"/\\/", 0, regex, 0, api.ErrLexRegex}, {"/[/\\]/", 0, regex, 0, api.ErrLexRegex}, {"/\n\xff", 0, regex, 0, api.ErrLexRegex}, {"/\\", 0, regex, 0, api.ErrLexRegex},
	} {
		want := answer{place: c.want, code: c.code}
		if got := ask(c.s, c.at, c.goal); !got.same(want) {
			t.Errorf("P5.1: Next(%q, %d, %d): %+v, want %+v", c.s, c.at, c.goal, got, want)
		}
	}
}

// TestNewLists changes the comments of an answer, and asks again.
func TestNewLists(t *testing.T) {
	s := "/*a*/ /*b*/ c"
	_, first, _, _ := lex.Next(s, 0, api.GoalDiv)
	want := slices.Clone(first)
	_ = append(first[:1], api.Comment{Text: "x"})
	if _, again, _, _ := lex.Next(s, 0, api.GoalDiv); !slices.Equal(again, want) {
		t.Errorf("R3: %+v, want %+v", again, want)
	}
}

// TestGreatTexts reads tokens and errors of a megabyte, each in one go.
func TestGreatTexts(t *testing.T) {
	const size = 1 << 20
	long := func(piece string) string { return strings.Repeat(piece, size/len(piece)) }
	for _, c := range []struct {
		s    string
		goal int
		to   int
		code api.Errno
	}{
		{long("a"), api.GoalDiv, size, api.OK}, {"#" + long("a"), api.GoalDiv, size + 1, api.OK}, {long("a-"), api.GoalTag, size, api.OK},
		{long("1"), api.GoalDiv, size, api.OK}, {long("1_"), api.GoalDiv, 0, api.ErrLexNumber}, {long("1") + long("x"), api.GoalDiv, 0, api.ErrLexNumber},
		{long("1") + "." + long("1") + "e" + long("0"), api.GoalDiv, 3*size + 2, api.OK}, {"1e+" + long("1"), api.GoalDiv, 0, api.ErrLexNumber},
		{"'" + long("\\'") + "'", api.GoalDiv, size + 2, api.OK}, {"'" + long("\\u{61}"), api.GoalDiv, size/6*6 + 1, api.ErrLexString},
		{"/" + long("[/]") + "/", api.GoalRegex, size/3*3 + 2, api.OK}, {"/" + long("[/\\]"), api.GoalRegex, 0, api.ErrLexRegex},
		{"`" + long("$\\`") + "`", api.GoalDiv, size/3*3 + 2, api.OK}, {"`" + long("\\`"), api.GoalDiv, 0, api.ErrLexTemplate}, {"}" + long("$ "), api.GoalTail, 0, api.ErrLexTemplate},
		{"\"" + long("'") + "\"", api.GoalTag, size + 2, api.OK}, {"\"" + long("'"), api.GoalTag, 0, api.ErrLexString}, {long("a\n"), api.GoalChild, size, api.OK},
		{long("/**/") + "a", api.GoalDiv, size + 1, api.OK}, {long("//\n"), api.GoalTag, size / 3 * 3, api.OK}, {"/*" + long("* /"), api.GoalDiv, 0, api.ErrLexComment}, {long(" \n"), api.GoalDiv, size, api.OK},
		{long("\u3000") + "\xff", api.GoalDiv, size / 3 * 3, api.ErrLexByte},
	} {
		begun := time.Now()
		got := ask(c.s, 0, c.goal)
		if spent := time.Since(begun); spent > 5*time.Second {
			t.Errorf("R1: %q..., %d took %v", c.s[:9], c.goal, spent)
		}
		if got.code != c.code || got.token.To+got.place != c.to {
			t.Errorf("P5.1: Next(%q..., 0, %d): To %d, place %d, error %d, want %d, %d", c.s[:9], c.goal, got.token.To, got.place, got.code, c.to, c.code)
		}
	}
}
