package regex_test

import (
	"math/rand"
	"strings"
	"testing"

	"platen/api"
	"platen/regex"
)

// judge holds Check against the grammar, without the flag u and with it.
type judge struct {
	plain, unicode *grammar
}

func newJudge() judge {
	return judge{plain: newGrammar(false), unicode: newGrammar(true)}
}

func (j judge) check(t *testing.T, body string) {
	t.Helper()
	at, code := j.plain.verdict(body)
	checkPlace(t, body, "", at, code)
	at, code = j.unicode.verdict(body)
	checkPlace(t, body, "u", at, code)
}

// extend holds all bodies together that begin with body and have up to so many
// pieces more.
func (j judge) extend(t *testing.T, body string, pieces []string, more int) {
	j.check(t, body)
	for i := 0; more > 0 && i < len(pieces); i++ {
		j.extend(t, body+pieces[i], pieces, more-1)
	}
}

// TestShortBodies goes through all bodies of few pieces.
func TestShortBodies(t *testing.T) {
	for _, c := range []struct {
		begin, pieces string
		more          int
	}{
		{"", "a b ^ $ \\ . * + ? ( ) [ ] { } | / - = ! : < > , 0 1 \n \xff é \U0001f600", 3},
		{"", "a ^ * ? ( ) | { [ ]", 5},
		{"(", "? < = ! : > a ) \xff", 5},
		{"(?<a>", "(?<a> (?<b> ( (?: (?= (?<! ) | \\k<a> \\k<b> \\1 \\2 \\3", 4},
		{"a{", "0 1 2 , } ? x", 5},
		{"a{10,", "0 1 9 } {", 5},
		{"\\", "0 1 8 b B k < > c x u { } a f F d p - ] $ / é", 3},
		{"\\u", "0 a F g { }", 5},
		{"\\u{", "0 1 F }", 6},
		{"\\u{10F", "0 F } 10FFFF", 4},
		{"\\p{", "L u gc= = sc= Latin Any } { \\", 4},
		{"\\k", "< > a 0 é \\ \xff", 4},
		{"[", "a b - ] ^ [ \\ \\d \\b \\- \\] \U0001f600 \u2028", 4},
		{"[", "- ] a \\u{1F600} \\uD83D \\uDE00 \U0001f600 \U0001f601 \\\U0001f600", 5},
		{"[a-", "\\ p { X } Lu - ]", 5},
		{"[^\\", "0 1 k B c x u A 41 0041 - ]", 4},
		{"[", "\\p{X} \\p{Lu} \\cA \\x01 \\0 - ]", 4},
	} {
		t.Run("", func(t *testing.T) {
			t.Parallel()
			newJudge().extend(t, c.begin, strings.Split(c.pieces, " "), c.more)
		})
	}
}

// whole are bodies in which most of the grammar occurs.
func whole() []string {
	return []string{
		`^(?:a|b)*?(c)(?<née>d{2,3})+\k<née>\1|$`, `(?=x)(?!y)(?<=z)(?<!w)\b\B.?`, `[^a-z\d\-\]\\-]{0,}[\b-\n]|[]|[^]`,
		`\f\n\r\t\v\cA\0\x41\u0041\(\/\.[\cA-\cz]`, `\u{1F600}\p{Lu}\P{sc=Greek}[\u{0}-\u{10FFFF}\p{gc=Nd}]`,
		"日本\U0001f600[\U0001f600-\U0001f601]\\\U0001f600", `((((a)|b)|c)|(?<x>(?<y>d)\k<y>)\6)\2`, `\d\D\s\S\w\W[\d\D\s\S\w\W]`,
	}
}

// TestEveryByteInEveryPlace puts each byte into each place of some bodies, and
// beside it.
func TestEveryByteInEveryPlace(t *testing.T) {
	for _, body := range whole() {
		t.Run("", func(t *testing.T) {
			t.Parallel()
			j := newJudge()
			for at := range len(body) {
				j.check(t, body[:at])
				j.check(t, body[:at]+body[at+1:])
				for b := range 256 {
					c := string([]byte{byte(b)})
					j.check(t, body[:at]+c+body[at+1:])
					j.check(t, body[:at]+c+body[at:])
				}
			}
		})
	}
}

// scraps are pieces that bodies are put together from.
func scraps() []string {
	return strings.Split("a|z|0|9|-|^|$|.|*|+|?|(|)|)|)|[|]|]|{|}|<|>|=|!|:|,|/|\\|é|日|\U0001f600|\xff|\u2028|||(?:|(?=|(?!|(?<=|(?<!|(?<a>|(?<b>|{2}|{2,}|"+
		"{2,10}|{10,2}|{1,1}?|\\1|\\2|\\10|\\k<a>|\\k<b>|\\b|\\B|\\d|\\W|\\n|\\cJ|\\0|\\x5A|\\u0041|\\u{41}|\\u{10FFFF}|\\u{110000}|\\p{Lu}|\\P{Any}|"+
		"\\p{sc=Han}|\\p{Q}|\\/|\\]|\\-|\\(|[a-z]|[z-a]|[^\\d-]|[\\b-\\n]|[\\s-a]|(a)|(?<a>b)|(?:c)+|(?=d)", "|")
}

// TestBodiesOfScraps goes through bodies that are put together in a mixed, but
// always the same order.
func TestBodiesOfScraps(t *testing.T) {
	t.Parallel()
	j := newJudge()
	dice := rand.New(rand.NewSource(4))
	all := append(scraps(), "|", "|")
	for range 100000 {
		var body strings.Builder
		for range 1 + dice.Intn(9) {
			body.WriteString(all[dice.Intn(len(all))])
		}
		j.check(t, body.String())
	}
}

// good are bodies of one term or of none, without numbers and names; those of
// the second list stand with the flag u only.
func good() (both, unicode []string) {
	both = []string{
		"", "a", "日", "/", "-", ".", "^", "$", "\\b", "\\B", "a*", "a+?", ".??", "a{2}", "a{2,}?", "a{2,2}", "[]", "[^]", "[a-z-]*", "[\\]\\b]", "\\d?",
		"\\cA{0}", "\\0", "\\x41+", "\\u0041", "\\(", "\\/", "()", "(a)*", "(?:)", "(?:a|)+", "(?=)", "(?!a)", "(?<=a*)", "(?<!a|b)", "((?:(a)))",
		"a|", "|", "\U0001f600*",
	}
	return both, []string{"\\u{1F600}*", "\\p{Lu}+", "[\\p{Any}\\-]", "[\U0001f600-\U0001f601]", "\\P{gc=Nd}"}
}

// TestGoodBodies: P4.2, and that terms stand in any order.
func TestGoodBodies(t *testing.T) {
	both, unicode := good()
	for _, flags := range []string{"", "u"} {
		bodies := both
		if flags == "u" {
			bodies = append(bodies, unicode...)
		}
		check := func(body string) {
			t.Helper()
			if body == "" {
				checkPlace(t, body, flags, 0, api.ErrRegexForm)
			} else {
				checkPlace(t, body, flags, 0, api.OK)
			}
		}
		for _, one := range bodies {
			check(one)
			for _, open := range []string{"(", "(?:", "(?=", "(?!", "(?<=", "(?<!", "(?<name>"} {
				check(open + one + ")")
				checkPlace(t, open+one, flags, len(open+one), api.ErrRegexForm)
			}
			for _, two := range bodies {
				check(one + "|" + two)
				check(one + two)
				check("(" + one + ")|" + two)
			}
		}
	}
}

func TestJoinedBodiesMayBeTooLong(t *testing.T) {
	half := strings.Repeat("a", api.MaxRegex/2)
	checkPlace(t, half, "", 0, api.OK)
	checkPlace(t, half+"|"+half[1:], "", 0, api.OK)
	checkPlace(t, half+"|"+half, "", 0, api.ErrRegexLong)
}

// TestAtOnce asks from several goroutines.
func TestAtOnce(t *testing.T) {
	answers := make(chan bool)
	for range 8 {
		go func() {
			same := true
			for _, body := range whole() {
				at, code := newGrammar(true).verdict(body)
				for range 50 {
					gotAt, gotCode := regex.Check(body, "u")
					same = same && gotAt == at && gotCode == code
				}
			}
			answers <- same
		}()
	}
	for range 8 {
		if !<-answers {
			t.Error("another answer from another goroutine")
		}
	}
}
