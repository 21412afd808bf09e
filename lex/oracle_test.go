package lex_test

import (
	"regexp"
	"slices"
	"strings"
	"testing"
	"unicode/utf8"

	"platen/api"
	"platen/lex"
	"platen/num"
	"platen/str"
)

// The classes of characters of chapter 1, for regular expressions.
const (
	startClass = `$_A-Za-z\x{AA}\x{B5}\x{BA}\x{C0}-\x{D6}\x{D8}-\x{F6}\x{F8}-\x{2C1}\x{370}-\x{373}\x{386}` +
		`\x{388}-\x{3FF}\x{400}-\x{481}\x{48A}-\x{52F}\x{531}-\x{556}\x{5D0}-\x{5EA}\x{620}-\x{64A}` +
		`\x{904}-\x{939}\x{E01}-\x{E30}\x{1E00}-\x{1FFF}\x{3041}-\x{3096}\x{30A1}-\x{30FA}` +
		`\x{3400}-\x{4DBF}\x{4E00}-\x{9FFF}\x{AC00}-\x{D7A3}\x{20000}-\x{2A6DF}`
	partClass = startClass + `0-9\x{300}-\x{36F}\x{483}-\x{487}\x{660}-\x{669}\x{966}-\x{96F}` +
		`\x{200C}-\x{200D}\x{FF10}-\x{FF19}`
	endsClass  = `\n\r\x{2028}\x{2029}`
	blankClass = `\t\v\f \x{A0}\x{1680}\x{2000}-\x{200A}\x{202F}\x{205F}\x{3000}\x{FEFF}`
)

// The forms of chapter 5.
var (
	blanksForm   = regexp.MustCompile(`^[` + blankClass + endsClass + `]+`)
	lineForm     = regexp.MustCompile(`^//[^` + endsClass + `]*`)
	blockForm    = regexp.MustCompile(`^/\*(?s:.*?)\*/`)
	hashForm     = regexp.MustCompile(`^#![^` + endsClass + `]*`)
	endsForm     = regexp.MustCompile(`[` + endsClass + `]`)
	nameForm     = regexp.MustCompile(`^[` + startClass + `][` + partClass + `]*`)
	tagNameForm  = regexp.MustCompile(`^[` + startClass + `][-` + partClass + `]*`)
	privateForm  = regexp.MustCompile(`^#[` + startClass + `][` + partClass + `]*`)
	digitForm    = regexp.MustCompile(`^\.?[0-9]`)
	behindForm   = regexp.MustCompile(`^[0-9` + startClass + `]`)
	templateForm = regexp.MustCompile("(?s)^[`}](?:[^\\\\]|\\\\.)*?(?:`|\\$\\{)")
	regexForm    = regexp.MustCompile(`^/(?:[^\\/\[` + endsClass + `]|\\[^` + endsClass + `]|\[(?:[^\]\\` + endsClass +
		`]|\\[^` + endsClass + `])*\])+/[` + partClass + `]*`)
	singleForm  = regexp.MustCompile(`^'(?:[^'\\\n\r]|\\(?:\r\n|(?s:.)))*(?:'|\\$)?`)
	doubleForm  = regexp.MustCompile(`^"(?:[^"\\\n\r]|\\(?:\r\n|(?s:.)))*(?:"|\\$)?`)
	attrForm    = regexp.MustCompile(`^(?:'[^']*'|"[^"]*")`)
	childForm   = regexp.MustCompile(`^[^{}<>]+`)
	punctuators = strings.Fields("{ } ( ) [ ] . ... ; , < > <= >= == != === !== + - * % ** ++ -- << >> >>> " +
		"& | ^ ! ~ && || ?? ? ?. : = += -= *= %= **= <<= >>= >>>= &= |= ^= &&= ||= ??= =>")
)

// answer is what a call of Next returns.
type answer struct {
	token    api.Token
	comments []api.Comment
	place    int
	code     api.Errno
}

func (a answer) same(b answer) bool {
	return a.token == b.token && slices.Equal(a.comments, b.comments) && a.place == b.place && a.code == b.code
}

func ask(s string, at, goal int) answer {
	token, comments, place, code := lex.Next(s, at, goal)
	return answer{token, comments, place, code}
}

// oracle reads a token by the forms: valid is the text up to the first byte
// that belongs to no complete character, broken tells that there is such a byte.
type oracle struct {
	valid  string
	broken bool
	at     int
	goal   int
	answer answer
}

func expected(s string, at, goal int) answer {
	if at < 0 || at > len(s) {
		return answer{code: api.ErrLexPlace}
	}
	if goal < 1 || goal > 5 || goal == api.GoalTail && !strings.HasPrefix(s[at:], "}") {
		return answer{code: api.ErrLexGoal}
	}
	o := oracle{valid: s, at: at, goal: goal}
	for i := at; i < len(s); {
		r, size := utf8.DecodeRuneInString(s[i:])
		if r == utf8.RuneError && size == 1 {
			o.valid, o.broken = s[:i], true
			break
		}
		i += size
	}
	if goal != api.GoalTail && goal != api.GoalChild {
		o.gap()
	}
	if o.answer.code == api.OK {
		o.token()
	}
	if o.answer.code != api.OK {
		return answer{place: o.answer.place, code: o.answer.code}
	}
	return o.answer
}

func (o *oracle) rest() string { return o.valid[o.at:] }

func (o *oracle) fail(place int, code api.Errno) {
	o.answer.place, o.answer.code = place, code
}

// lacks is an error that is detected at the end of the text, unless a byte
// that belongs to no character comes first.
func (o *oracle) lacks(code api.Errno) {
	if o.broken {
		o.fail(len(o.valid), api.ErrLexByte)
	} else {
		o.fail(o.at, code)
	}
}

func (o *oracle) gap() {
	for {
		rest, kind := o.rest(), 0
		text := blanksForm.FindString(rest)
		for form, k := range map[*regexp.Regexp]int{lineForm: 1, blockForm: 2, hashForm: 3} {
			if found := form.FindString(rest); found != "" && (k != api.Hashbang || o.at == 0) {
				text, kind = found, k
			}
		}
		if kind != api.LineComment && kind != api.Hashbang && endsForm.MatchString(text) {
			o.answer.token.Line = true
		}
		if kind != 0 {
			to := o.at + len(text)
			o.answer.comments = append(o.answer.comments, api.Comment{Kind: kind, Text: text, From: o.at, To: to})
		}
		o.at += len(text)
		switch {
		case text != "":
		case strings.HasPrefix(rest, "/*"):
			o.lacks(api.ErrLexComment)
			return
		default:
			if rest == "" && o.broken {
				o.fail(o.at, api.ErrLexByte)
			}
			return
		}
	}
}

// take takes text as the token; ahead tells that the character behind it is
// read as well.
func (o *oracle) take(kind int, text string, ahead bool) {
	if ahead && text == o.rest() && o.broken {
		o.fail(len(o.valid), api.ErrLexByte)
		return
	}
	o.answer.token.Kind, o.answer.token.Text = kind, text
	o.answer.token.From, o.answer.token.To = o.at, o.at+len(text)
}

func (o *oracle) token() {
	rest := o.rest()
	switch {
	case rest == "" && o.broken:
		o.fail(o.at, api.ErrLexByte)
	case rest == "":
		o.take(api.TokEnd, "", false)
	case o.goal == api.GoalTail:
		o.template(api.TokTail, api.TokMiddle)
	case o.goal == api.GoalChild:
		o.child()
	case o.goal == api.GoalTag:
		o.tag()
	default:
		o.common()
	}
}

func (o *oracle) template(whole, part int) {
	text := templateForm.FindString(o.rest())
	switch {
	case text == "":
		o.lacks(api.ErrLexTemplate)
	case strings.HasSuffix(text, "`"):
		o.take(whole, text, false)
	default:
		o.take(part, text, false)
	}
}

func (o *oracle) child() {
	rest := o.rest()
	if strings.ContainsAny(rest[:1], "{<") {
		o.take(api.TokPunct, rest[:1], false)
	} else if text := childForm.FindString(rest); text != "" {
		o.take(api.TokChild, text, true)
	} else {
		o.fail(o.at, api.ErrLexByte)
	}
}

func (o *oracle) tag() {
	rest := o.rest()
	if text := tagNameForm.FindString(rest); text != "" {
		o.take(api.TokName, text, true)
	} else if text := attrForm.FindString(rest); text != "" {
		o.take(api.TokAttr, text, false)
	} else if strings.ContainsAny(rest[:1], `"'`) {
		o.lacks(api.ErrLexString)
	} else if strings.ContainsAny(rest[:1], "<>/{=.:") {
		o.take(api.TokPunct, rest[:1], false)
	} else {
		o.stray()
	}
}

func (o *oracle) stray() {
	if strings.HasPrefix(o.rest(), `\`) {
		o.fail(o.at, api.ErrLexEscape)
	} else {
		o.fail(o.at, api.ErrLexByte)
	}
}

func (o *oracle) common() {
	rest := o.rest()
	if text := nameForm.FindString(rest); text != "" {
		o.take(api.TokName, text, true)
	} else if text := privateForm.FindString(rest); text != "" {
		o.take(api.TokPrivate, text, true)
	} else if rest == "#" {
		o.lacks(api.ErrLexName)
	} else if rest[0] == '#' {
		o.fail(o.at, api.ErrLexName)
	} else if digitForm.MatchString(rest) {
		o.number()
	} else if rest[0] == '\'' {
		o.literal(singleForm.FindString(rest))
	} else if rest[0] == '"' {
		o.literal(doubleForm.FindString(rest))
	} else if rest[0] == '`' {
		o.template(api.TokQuasi, api.TokHead)
	} else if rest[0] == '/' && o.goal == api.GoalRegex {
		o.regex()
	} else if text := o.punctuator(); text != "" {
		o.take(api.TokPunct, text, false)
	} else {
		o.stray()
	}
}

func (o *oracle) number() {
	rest := o.rest()
	length := len(rest)
	for num.Check(rest[:length]) != api.OK {
		length--
	}
	if behindForm.MatchString(rest[length:]) {
		o.fail(o.at, api.ErrLexNumber)
	} else {
		o.take(api.TokNum, rest[:length], true)
	}
}

func (o *oracle) literal(text string) {
	place, code := str.Check(text)
	switch place += o.at; {
	case code == api.OK:
		o.take(api.TokStr, text, false)
	case place == len(o.valid) && o.broken:
		o.fail(place, api.ErrLexByte)
	default:
		o.fail(place, api.ErrLexString)
	}
}

func (o *oracle) regex() {
	text := regexForm.FindString(o.rest())
	switch {
	case text != "":
		o.take(api.TokRegex, text, true)
	case endsForm.MatchString(o.rest()):
		o.fail(o.at, api.ErrLexRegex)
	default:
		o.lacks(api.ErrLexRegex)
	}
}

func (o *oracle) punctuator() string {
	rest, longest := o.rest(), ""
	known := punctuators
	if o.goal == api.GoalDiv {
		known = append([]string{"/", "/="}, known...)
	}
	for _, text := range known {
		if strings.HasPrefix(rest, text) && len(text) > len(longest) {
			if text != "?." || len(rest) == 2 || rest[2] < '0' || rest[2] > '9' {
				longest = text
			}
		}
	}
	return longest
}

// hold holds Next against the oracle at every place of s and for every goal,
// and P5.2 with it.
func hold(t *testing.T, s string) {
	t.Helper()
	for at := range len(s) + 1 {
		for goal := api.GoalDiv; goal <= api.GoalTag; goal++ {
			holdAt(t, s, at, goal)
		}
	}
}

func holdAt(t *testing.T, s string, at, goal int) {
	t.Helper()
	got, want := ask(s, at, goal), expected(s, at, goal)
	if !got.same(want) {
		t.Errorf("P5.1: Next(%q, %d, %d): %+v, want %+v", s, at, goal, got, want)
		return
	}
	if got.code != api.OK {
		return
	}
	token := got.token
	if s[token.From:token.To] != token.Text {
		t.Errorf("P5.2: Next(%q, %d, %d): %+v is no piece of the text", s, at, goal, token)
	}
	token.Line = false
	again := ask(s, token.From, goal)
	if !again.same(answer{token: token}) {
		t.Errorf("P5.2: Next(%q, %d, %d): %+v read again is %+v", s, at, goal, got.token, again)
	}
}

// sequences calls visit with every sequence of at most length pieces.
func sequences(pieces []string, length int, visit func(string)) {
	var extend func(text string, left int)
	extend = func(text string, left int) {
		visit(text)
		if left == 0 {
			return
		}
		for _, piece := range pieces {
			extend(text+piece, left-1)
		}
	}
	extend("", length)
}

func TestEverySequence(t *testing.T) {
	for name, c := range map[string]struct {
		pieces string
		length int
		blank  bool
	}{
		"all":      {"a 0 1 e x n . _ / * \\ ' \" ` $ { } # ! \n \r \u2028 \xff - [ ] < > ? = + & é @", 2, true},
		"gap":      {"/ * # ! \n \u2029 \xff a", 5, true},
		"number":   {"0 1 9 e X n . _ + \xff é", 4, false},
		"exponent": {"1e 1 0 _ - . 123456789", 5, false},
		"based":    {"0x 0b 1 e a n . _ + \xe2\x80", 4, false},
		"string":   {"' \" \\ \r \n u{ 4 110000 } x \xff", 4, false},
		"regex":    {"/ [ ] \\ \n a * \xff", 5, false},
		"template": {"` $ { } \\ \xff \r \n", 5, false},
		"names":    {"a # - 0 é \u200d ٠ × \xc3 !", 4, false},
		"markup":   {"a - < > / { } = . : ' \" \xff \\", 4, false},
	} {
		t.Run(name, func(t *testing.T) {
			t.Parallel()
			pieces := strings.Split(c.pieces, " ")
			if c.blank {
				pieces = append(pieces, " ")
			}
			sequences(pieces, c.length, func(s string) { hold(t, s) })
		})
	}
}

func TestEveryRowOfPunctuators(t *testing.T) {
	t.Parallel()
	bytes := strings.Split("{}()[].;,<>=!+-*%&|^~?:/0", "")
	sequences(bytes, 4, func(s string) { holdAt(t, s, 0, api.GoalDiv) })
	sequences(bytes, 3, func(s string) { holdAt(t, s, 0, api.GoalRegex) })
	sequences([]string{">", "=", "?", ".", "0"}, 6, func(s string) { holdAt(t, s, 0, api.GoalDiv) })
}

// TestCharacters reads characters where a name begins, where it goes on, and
// between tokens.
func TestCharacters(t *testing.T) {
	t.Parallel()
	holdCharacter := func(r rune) {
		for _, s := range []string{string(r), "a" + string(r), "#" + string(r), "1" + string(r), " " + string(r) + "b", "//" + string(r) + "b"} {
			for _, goal := range []int{api.GoalDiv, api.GoalTag, api.GoalChild} {
				holdAt(t, s, 0, goal)
			}
		}
		holdAt(t, "/"+string(r)+"/"+string(r), 0, api.GoalRegex)
	}
	for r := range rune(0x3100) {
		holdCharacter(r)
	}
	for _, r := range []rune{0x3400, 0x4DC0, 0x4E00, 0xA000, 0xAC00, 0xD7A4, 0xE000, 0xFEFF, 0xFF10, 0xFF1A, 0x20000, 0x2A6E0, 0x10FFFF} {
		holdCharacter(r - 1)
		holdCharacter(r)
	}
}

// TestEveryByte puts every byte into every place of some texts.
func TestEveryByte(t *testing.T) {
	t.Parallel()
	for _, s := range []string{
		"#!a\n b", "a // é\nb", "a /* é\n*/ b", "é1 ", "#aé ", "0x1_Fn ", "1_0.5e+1_0 ", ".5 ",
		"'a\\x41\\u{41}é' ", "\"\\\r\n\" ", "/a[/\\]]\\/é/gu ", "`a\\`${", "`$\\é` ", "}$\\`é` ", "a-b='1' ", "a'\n\" ",
		"x é<", "?.1", ">>>=",
	} {
		for at := range len(s) {
			for b := range 256 {
				changed := s[:at] + string([]byte{byte(b)}) + s[at+1:]
				put := s[:at] + string([]byte{byte(b)}) + s[at:]
				for goal := api.GoalDiv; goal <= api.GoalTag; goal++ {
					holdAt(t, changed, 0, goal)
					holdAt(t, put, 0, goal)
				}
			}
		}
	}
}

// TestMixedScraps holds texts made of scraps in a fixed, mixed order.
func TestMixedScraps(t *testing.T) {
	t.Parallel()
	scraps := []string{
		"a", "é", "0x", "1_0", "e+1", "n", ".", "...", "?.", "'", "\"", "`", "${", "}", "{", "\\", "\\u{41}", "\\\r\n",
		"/", "/*", "*/", "//", "#!", "#", "[", "]", "(", " ", "\t", "\n", "\r\n", "\u2028", "\ufeff", "\xff", "\xe2\x80",
		"<", ">", "</", "/>", "a-b", "=", "==", "&&=", "**", "日", "\U0001F600", "@",
	}
	state := uint32(1)
	for range 30000 {
		var b strings.Builder
		state = state*1664525 + 1013904223
		for range 2 + state>>28 {
			state = state*1664525 + 1013904223
			b.WriteString(scraps[int(state>>8)%len(scraps)])
		}
		s := b.String()
		state = state*1664525 + 1013904223
		at := int(state>>8) % (len(s) + 1)
		for goal := api.GoalDiv; goal <= api.GoalTag; goal++ {
			holdAt(t, s, 0, goal)
			holdAt(t, s, at, goal)
		}
	}
}
