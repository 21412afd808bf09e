package regex_test

import (
	"strings"
	"testing"

	"platen/api"
	"platen/regex"
)

func checkPlace(t *testing.T, body, flags string, at int, code api.Errno) {
	t.Helper()
	if gotAt, gotCode := regex.Check(body, flags); gotAt != at || gotCode != code {
		t.Fatalf("Check(%.200q, %q) = %d, %d; want %d, %d", body, flags, gotAt, gotCode, at, code)
	}
}

func TestFlags(t *testing.T) {
	const letters = "dgimsuy"
	var extend func(flags string)
	extend = func(flags string) {
		checkPlace(t, "a", flags, 0, api.OK)
		for b := range 256 {
			c := string([]byte{byte(b)})
			switch {
			case strings.Contains(flags, c) || !strings.Contains(letters, c):
				checkPlace(t, "a", flags+c, 0, api.ErrRegexFlags)
				checkPlace(t, "a", c+flags, 0, api.ErrRegexFlags)
			case len(flags) < 3:
				extend(flags + c)
			}
		}
	}
	extend("")
	for _, flags := range []string{letters, "yusmigd", "ugdmysi"} {
		checkPlace(t, "a", flags, 0, api.OK)
		checkPlace(t, "\\-", flags, 1, api.ErrRegexForm)
		checkPlace(t, "\\-", strings.ReplaceAll(flags, "u", ""), 0, api.OK)
	}
	for _, flags := range []string{"G", "é", "\xff", " ", "g g", "uu", "gimg", "v", "\u0131", strings.Repeat("g", 1<<20), "dgimsuyd"} {
		for _, body := range []string{"a", "", "(", "[b-a]", "\\1", strings.Repeat("a", api.MaxRegex+1)} {
			checkPlace(t, body, flags, 0, api.ErrRegexFlags)
		}
	}
}

func TestLongBodies(t *testing.T) {
	for _, piece := range []string{"a", "(", ")", "\xff", "(?<a>)", "日", "[z-a]"} {
		body := strings.Repeat(piece, api.MaxRegex/len(piece)+1)
		checkPlace(t, body, "", 0, api.ErrRegexLong)
		checkPlace(t, body[:api.MaxRegex+1], "u", 0, api.ErrRegexLong)
	}
	checkPlace(t, strings.Repeat("a", 1<<20), "", 0, api.ErrRegexLong)
	const size = api.MaxRegex
	for _, c := range []struct {
		body string
		at   int
		code api.Errno
	}{
		{strings.Repeat("a", size), 0, api.OK},
		{strings.Repeat("(", size/2) + strings.Repeat(")", size/2), 0, api.OK},
		{strings.Repeat("(", size), size, api.ErrRegexForm},
		{strings.Repeat("(?:", size/3), size / 3 * 3, api.ErrRegexForm},
		{strings.Repeat("(?:", size/4) + strings.Repeat(")", size/4), 0, api.OK},
		{strings.Repeat("(?<=", size/4), size, api.ErrRegexForm},
		{strings.Repeat("|", size), 0, api.OK},
		{"[" + strings.Repeat("[", size-1), size, api.ErrRegexForm},
		{"[" + strings.Repeat("a-z", size/3-1) + "]", 0, api.OK},
		{"a{" + strings.Repeat("9", size-3) + "}", 0, api.OK},
		{"a{1" + strings.Repeat("0", 2000) + ",1" + strings.Repeat("0", 1999) + "}", 1, api.ErrRegexRange},
		{"a{" + strings.Repeat("0", 2000) + "2,1}", 1, api.ErrRegexRange},
		{"a{2," + strings.Repeat("0", 2000) + "}", 1, api.ErrRegexRange},
		{"\\" + strings.Repeat("1", size-1), 0, api.ErrRegexGroup},
		{strings.Repeat("()", 2045) + "\\2045", 0, api.OK},
		{strings.Repeat("()", 2045) + "\\2046", 4090, api.ErrRegexGroup},
		{strings.Repeat("\\1", size/2-1) + "()", 0, api.OK},
		{"(?<" + strings.Repeat("a", size-5) + ">)", 0, api.OK},
	} {
		checkPlace(t, c.body, "", c.at, c.code)
		checkPlace(t, c.body, "u", c.at, c.code)
	}
	checkPlace(t, "\\u{"+strings.Repeat("0", size-6)+"41}", "u", 0, api.OK)
	checkPlace(t, "\\u{"+strings.Repeat("f", size-4)+"}", "u", size-1, api.ErrRegexForm)
}

// TestErrors are errors that are the same without the flag u and with it.
func TestErrors(t *testing.T) {
	for _, c := range []struct {
		body string
		at   int
		code api.Errno
	}{
		// Form: bodies that end too early.
		{"", 0, api.ErrRegexForm}, {"(", 1, api.ErrRegexForm}, {"(?", 2, api.ErrRegexForm}, {"(?<", 3, api.ErrRegexForm}, {"(?<a", 4, api.ErrRegexForm},
		{"(?=", 3, api.ErrRegexForm}, {"(?<!", 4, api.ErrRegexForm}, {"(?:a", 4, api.ErrRegexForm}, {"(a|", 3, api.ErrRegexForm}, {"a{", 2, api.ErrRegexForm},
		{"a{1,", 4, api.ErrRegexForm}, {"a{2,1", 5, api.ErrRegexForm}, {"[^", 2, api.ErrRegexForm}, {"[a-", 3, api.ErrRegexForm}, {"[a\\", 3, api.ErrRegexForm},
		{"\\c", 2, api.ErrRegexForm}, {"\\x", 2, api.ErrRegexForm}, {"\\u004", 5, api.ErrRegexForm}, {"\\k<a", 4, api.ErrRegexForm},
		// Form: characters that are wrong everywhere.
		{"\n", 0, api.ErrRegexForm}, {"a\r", 1, api.ErrRegexForm}, {"a\u2028", 1, api.ErrRegexForm}, {"[\u2029]", 1, api.ErrRegexForm}, {"\\\n", 1, api.ErrRegexForm},
		{"[\\\u2028]", 2, api.ErrRegexForm}, {"\xff", 0, api.ErrRegexForm}, {"é\xe6\x97", 2, api.ErrRegexForm}, {"[a\xed\xa0\x80]", 2, api.ErrRegexForm},
		{"\\\xff", 1, api.ErrRegexForm}, {"(?<a\xff>", 4, api.ErrRegexForm}, {"\\k<a\n>", 4, api.ErrRegexForm}, {"[z-\xff", 3, api.ErrRegexForm},
		// Form: groups.
		{")", 0, api.ErrRegexForm}, {"(a))", 3, api.ErrRegexForm}, {"(?)", 1, api.ErrRegexForm}, {"(??)", 1, api.ErrRegexForm}, {"a(?P<b>c)", 2, api.ErrRegexForm},
		{"(?\xff", 1, api.ErrRegexForm}, {"(?\n", 1, api.ErrRegexForm}, {"(?<>a)", 3, api.ErrRegexForm}, {"(?<a-b>c)", 4, api.ErrRegexForm},
		{"(?<a>x)(?<\\u0061>y)", 10, api.ErrRegexForm}, {"(?*a)", 1, api.ErrRegexForm}, {"(*)", 1, api.ErrRegexForm}, {"(a|*)", 3, api.ErrRegexForm},
		// Form: quantifiers.
		{"+", 0, api.ErrRegexForm}, {"a|?", 2, api.ErrRegexForm}, {"$+", 1, api.ErrRegexForm}, {"\\b?", 2, api.ErrRegexForm}, {"\\B{1}", 2, api.ErrRegexForm},
		{"(?=a)*", 5, api.ErrRegexForm}, {"(?!a)?", 5, api.ErrRegexForm}, {"(?<=a)+", 6, api.ErrRegexForm}, {"(?<!a){2}", 6, api.ErrRegexForm},
		{"a+*", 2, api.ErrRegexForm}, {"a???", 3, api.ErrRegexForm}, {"a{1}{2}", 4, api.ErrRegexForm}, {"a{}", 2, api.ErrRegexForm}, {"a{-1}", 2, api.ErrRegexForm},
		{"a{ 1}", 2, api.ErrRegexForm}, {"a{1 }", 3, api.ErrRegexForm}, {"a{1,,2}", 4, api.ErrRegexForm}, {"a{1,2", 5, api.ErrRegexForm}, {"a{2,1x}", 5, api.ErrRegexForm},
		{"a{1,2,3}", 5, api.ErrRegexForm}, {"}", 0, api.ErrRegexForm}, {"a}", 1, api.ErrRegexForm}, {"a]", 1, api.ErrRegexForm},
		// Form: escapes.
		{"\\01", 2, api.ErrRegexForm}, {"[\\09]", 3, api.ErrRegexForm}, {"[\\1]", 2, api.ErrRegexForm}, {"[\\k<a>]", 2, api.ErrRegexForm}, {"\\xg0", 2, api.ErrRegexForm},
		{"\\u12g4", 4, api.ErrRegexForm}, {"\\c_", 2, api.ErrRegexForm}, {"[\\c0]", 3, api.ErrRegexForm}, {"\\q", 1, api.ErrRegexForm}, {"\\_", 1, api.ErrRegexForm},
		{"\\k<1>", 3, api.ErrRegexForm}, {"\\k<>", 3, api.ErrRegexForm}, {"\\ka", 2, api.ErrRegexForm}, {"\\X41", 1, api.ErrRegexForm}, {"\\é", 1, api.ErrRegexForm},
		// Range.
		{"a{2,1}", 1, api.ErrRegexRange}, {"日{10,9}", 3, api.ErrRegexRange}, {"(a){1,0}?", 3, api.ErrRegexRange}, {"a{007,06}", 1, api.ErrRegexRange},
		{"a{100000000000000000000,99999999999999999999}", 1, api.ErrRegexRange}, {"[b-a]", 1, api.ErrRegexRange}, {"x[^cb-a]", 4, api.ErrRegexRange},
		{"[a-c--\\b]", 4, api.ErrRegexRange}, {"[\\x41-\\x40]", 1, api.ErrRegexRange}, {"[\\u0041-\\0]", 1, api.ErrRegexRange}, {"[\\cB-\\cA]", 1, api.ErrRegexRange},
		{"[\\cb-\\cA]", 1, api.ErrRegexRange}, {"[a-\\d]", 1, api.ErrRegexRange}, {"[\\w-\\w]", 1, api.ErrRegexRange}, {"[\\D--]", 1, api.ErrRegexRange},
		{"[\\v-\\n]", 1, api.ErrRegexRange}, {"[\\r-\\f]", 1, api.ErrRegexRange}, {"[\\f-\\v]", 1, api.ErrRegexRange}, {"[\\n-\\t]", 1, api.ErrRegexRange},
		{"[\\t-\\b]", 1, api.ErrRegexRange}, {"[b-a", 1, api.ErrRegexRange},
		// Names.
		{"(?<a>x)|(?<a>y)", 11, api.ErrRegexName}, {"(?<a>(?<a>x))", 8, api.ErrRegexName}, {"(?<é>x)(?<ab>)(?<é>", 18, api.ErrRegexName}, {"\\k<b>(?<a>)", 0, api.ErrRegexName},
		{"(?<a>\\k<aa>)", 5, api.ErrRegexName}, {"(?<A>)\\k<a>", 6, api.ErrRegexName},
		// Groups.
		{"a\\1", 1, api.ErrRegexGroup}, {"(\\2)", 1, api.ErrRegexGroup}, {"(?:a)(?=b)(?<=c)(?!d)(?<!e)\\1", 27, api.ErrRegexGroup}, {"[(]\\(\\1", 5, api.ErrRegexGroup},
		{"()\\10", 2, api.ErrRegexGroup}, {"()\\18446744073709551617", 2, api.ErrRegexGroup}, {"()\\4294967297", 2, api.ErrRegexGroup},
		// What is detected first.
		{"(?<a>)(?<a>\xff", 9, api.ErrRegexName}, {"[b-a\xff", 1, api.ErrRegexRange}, {"a{2,1}\\q", 1, api.ErrRegexRange}, {"\\1(?<a>)(?<a>)", 11, api.ErrRegexName},
		{"\\1)", 2, api.ErrRegexForm}, {"\\k<x>[b-a]", 6, api.ErrRegexRange}, {"[\\d-\\q]", 5, api.ErrRegexForm}, {"[b-a]{2,1}", 1, api.ErrRegexRange},
		{"(?<a>[b-a](?<a>", 6, api.ErrRegexRange}, {"\\3\\k<q>()", 0, api.ErrRegexGroup}, {"\\1\\k<q>\\2()", 2, api.ErrRegexName},
	} {
		checkPlace(t, c.body, "", c.at, c.code)
		checkPlace(t, c.body, "u", c.at, c.code)
	}
}

// TestReferences are references to groups that are there, ahead of them, in them
// and behind them.
func TestReferences(t *testing.T) {
	for _, body := range []string{
		"(a)\\1", "\\1(a)", "(a\\1)", "(a)|\\1", "((a)(b))\\3", "\\2()()", "(?<a>x)\\1", "(?:(a))\\1", "(?=(a))\\1", "(?!(a))\\1", "(?<=(a))\\1", "()\\1*",
		"()()()()()()()()()()\\10", "(?<a>x)\\k<a>", "\\k<a>(?<a>x)", "(?<a>\\k<a>)", "(?<a>)|\\k<a>+", "(?<$_1>)\\k<$_1>", "(?<é日>)\\k<é日>",
		"(?<\U00020000>)\\k<\U00020000>", "(?<a>)(?<b>)\\k<b>\\k<a>\\2", "(?<a>)(?<A>)(?<aa>)", "(?<constructor>)(?<__proto__>)",
	} {
		checkPlace(t, body, "", 0, api.OK)
		checkPlace(t, body, "u", 0, api.OK)
	}
}

// TestFlagTellsApart are bodies about which the flag u makes a difference.
func TestFlagTellsApart(t *testing.T) {
	for _, c := range []struct {
		body     string
		at       int
		code     api.Errno
		atU      int
		unicoded api.Errno
	}{
		{"\\-", 0, api.OK, 1, api.ErrRegexForm}, {"[\\-]", 0, api.OK, 0, api.OK}, {"[\\--a]", 0, api.OK, 0, api.OK}, {"\\/", 0, api.OK, 0, api.OK},
		{"\\ ", 0, api.OK, 1, api.ErrRegexForm}, {"\\'", 0, api.OK, 1, api.ErrRegexForm}, {"[\\:]", 0, api.OK, 2, api.ErrRegexForm}, {"\\$", 1, api.ErrRegexForm, 0, api.OK},
		{"\\\u2029", 1, api.ErrRegexForm, 1, api.ErrRegexForm}, {"\\\u200d", 1, api.ErrRegexForm, 1, api.ErrRegexForm}, {"\\\u200b", 0, api.OK, 1, api.ErrRegexForm},
		{"\\\U0001f600", 0, api.OK, 1, api.ErrRegexForm}, {"\\\U00020000", 1, api.ErrRegexForm, 1, api.ErrRegexForm},
		// Code points in braces.
		{"\\u{0}", 2, api.ErrRegexForm, 0, api.OK}, {"\\u{10ffFF}", 2, api.ErrRegexForm, 0, api.OK}, {"\\u{000110000}", 2, api.ErrRegexForm, 12, api.ErrRegexForm},
		{"\\u{}", 2, api.ErrRegexForm, 3, api.ErrRegexForm}, {"\\u{", 2, api.ErrRegexForm, 3, api.ErrRegexForm}, {"\\u{g}", 2, api.ErrRegexForm, 3, api.ErrRegexForm},
		{"\\u{1_0}", 2, api.ErrRegexForm, 4, api.ErrRegexForm}, {"\\u{+1}", 2, api.ErrRegexForm, 3, api.ErrRegexForm}, {"\\u{41", 2, api.ErrRegexForm, 5, api.ErrRegexForm},
		{"\\u{110000", 2, api.ErrRegexForm, 9, api.ErrRegexForm}, {"\\u{FFFFFFFFFFFFFFFFF}", 2, api.ErrRegexForm, 20, api.ErrRegexForm}, {"\\u{100000041}", 2, api.ErrRegexForm, 12, api.ErrRegexForm},
		{"[\\u{1F600}-\\u{1F5FF}]", 3, api.ErrRegexForm, 1, api.ErrRegexRange}, {"[\\u{61}-\\u{0000062}]", 3, api.ErrRegexForm, 0, api.OK},
		// Characters of two code units.
		{"[\U0001f600-\U0001f601]", 1, api.ErrRegexRange, 0, api.OK}, {"[\U0001f601-\U0001f600]", 1, api.ErrRegexRange, 1, api.ErrRegexRange},
		{"[a-\U0001f600]", 0, api.OK, 0, api.OK}, {"[\U0001f600-a]", 1, api.ErrRegexRange, 1, api.ErrRegexRange}, {"[ab-\U0001f600-z]", 4, api.ErrRegexRange, 0, api.OK},
		{"[\uffff-\U0001f600]", 1, api.ErrRegexRange, 0, api.OK}, {"[\\uD83D-\U0001f600]", 0, api.OK, 0, api.OK}, {"[\\uD83E-\U0001f600]", 1, api.ErrRegexRange, 0, api.OK},
		{"[\U0001f600-\\uDE00]", 0, api.OK, 1, api.ErrRegexRange}, {"[\U0001f600-\\uDDFF]", 1, api.ErrRegexRange, 1, api.ErrRegexRange}, {"[a-\U0001f600-]", 0, api.OK, 0, api.OK},
		{"[\\\U0001f600-\\\U0001f601]", 0, api.OK, 2, api.ErrRegexForm}, {"[\\\U0001f601-\\\U0001f600]", 1, api.ErrRegexRange, 2, api.ErrRegexForm},
		{"[\\\U0001f600-\uffff]", 1, api.ErrRegexRange, 2, api.ErrRegexForm}, {"[\U0001f600-\\\U0001f600]", 0, api.OK, 7, api.ErrRegexForm},
		{"[\\uD83D\\uDE00-\\uD83D\\uDE01]", 7, api.ErrRegexRange, 7, api.ErrRegexRange},
		// Properties.
		{"\\p{Lu}", 1, api.ErrRegexForm, 0, api.OK}, {"\\P", 1, api.ErrRegexForm, 2, api.ErrRegexForm}, {"\\pL", 1, api.ErrRegexForm, 2, api.ErrRegexForm},
		{"\\p{", 1, api.ErrRegexForm, 3, api.ErrRegexForm}, {"\\p{Lu", 1, api.ErrRegexForm, 5, api.ErrRegexForm}, {"\\p{}", 1, api.ErrRegexForm, 3, api.ErrRegexName},
		{"\\p{\n}", 1, api.ErrRegexForm, 3, api.ErrRegexForm}, {"\\p{L\xff}", 1, api.ErrRegexForm, 4, api.ErrRegexForm}, {"[\\p{Lu}]", 2, api.ErrRegexForm, 0, api.OK},
		{"[\\p{Lu}-z]", 2, api.ErrRegexForm, 1, api.ErrRegexRange}, {"[z-\\P{Lu}]", 4, api.ErrRegexForm, 1, api.ErrRegexRange}, {"[\\p{Lu}-]", 2, api.ErrRegexForm, 0, api.OK},
		{"[z-\\p{X}]", 4, api.ErrRegexForm, 6, api.ErrRegexName}, {"[\\p{X}-z]", 2, api.ErrRegexForm, 4, api.ErrRegexName}, {"\\p{X}\xff", 1, api.ErrRegexForm, 3, api.ErrRegexName},
		{"\\p{Lu}\\1", 1, api.ErrRegexForm, 6, api.ErrRegexGroup}, {"\\P{日}", 1, api.ErrRegexForm, 3, api.ErrRegexName}, {"\\p{L\\}", 1, api.ErrRegexForm, 3, api.ErrRegexName},
	} {
		checkPlace(t, c.body, "", c.at, c.code)
		checkPlace(t, c.body, "u", c.atU, c.unicoded)
		checkPlace(t, c.body, "dgimsy", c.at, c.code)
		checkPlace(t, c.body, "yusg", c.atU, c.unicoded)
	}
}

func TestProperties(t *testing.T) {
	categories := strings.Fields("L Lu Ll Lt Lm Lo M Mn N Nd P S Z")
	others := strings.Fields("ASCII Any Alphabetic ID_Start ID_Continue White_Space Uppercase Lowercase Emoji")
	scripts := strings.Fields("Latin Greek Cyrillic Han Hiragana Katakana Arabic Hebrew")
	names := map[string]bool{}
	add := func(prefix string, list []string) {
		for _, name := range list {
			names[prefix+name] = true
		}
	}
	add("", categories)
	add("", others)
	add("General_Category=", categories)
	add("gc=", categories)
	for _, key := range []string{"Script=", "sc=", "Script_Extensions=", "scx="} {
		add(key, scripts)
	}
	check := func(name string) {
		t.Helper()
		at, code := 3, api.ErrRegexName
		if names[name] {
			at, code = 0, api.OK
		}
		checkPlace(t, "\\p{"+name+"}", "u", at, code)
		checkPlace(t, "\\P{"+name+"}*", "u", at, code)
	}
	all := append(append(append(categories, others...), scripts...), "", "C", "Nl", "Zs", "Letter", "Thai", "ascii", "constructor", "L=", "=L")
	for _, key := range []string{"", "General_Category=", "gc=", "Script=", "sc=", "Script_Extensions=", "scx=", "GC=", "=", "gc", "sc =", "Lu=", "x="} {
		for _, name := range all {
			for _, more := range []string{"", " ", "x", "=", "=L", "{"} {
				check(key + name + more)
				check(more + key + name)
				check(key + more + name)
			}
		}
	}
}
