package regex_test

import (
	"regexp"
	"slices"
	"strconv"
	"strings"
	"unicode/utf16"
	"unicode/utf8"

	"platen/api"
	"platen/uni"
)

// grammar follows every way in which a body can be read. Where the one that
// comes furthest gets stuck, there stands what the grammar does not permit.
type grammar struct {
	body     string
	unicode  bool
	furthest int
	whole    rule // what a pattern is
}

// newGrammar makes a grammar that can read one body after the other.
func newGrammar(unicode bool) *grammar {
	g := &grammar{unicode: unicode}
	alternative := many(g.term())
	g.whole = inTurn(alternative, many(inTurn(g.text("|"), alternative)))
	return g
}

// reads reports whether body has the form of a body.
func (g *grammar) reads(body string) bool {
	g.body, g.furthest = body, 0
	return slices.Contains(g.whole(0), len(body)) && body != ""
}

// rule tells where what begins at a place can end.
type rule func(at int) []int

func (g *grammar) stuck(at int) []int {
	g.furthest = max(g.furthest, at)
	return nil
}

// one is a character that is permitted.
func (g *grammar) one(permitted func(r rune) bool) rule {
	return func(at int) []int {
		r, size := utf8.DecodeRuneInString(g.body[at:])
		if r == utf8.RuneError && size <= 1 || strings.ContainsRune("\n\r\u2028\u2029", r) || !permitted(r) {
			return g.stuck(at)
		}
		return []int{at + size}
	}
}

func (g *grammar) of(characters string) rule {
	return g.one(func(r rune) bool { return strings.ContainsRune(characters, r) })
}

func (g *grammar) but(characters string) rule {
	return g.one(func(r rune) bool { return !strings.ContainsRune(characters, r) })
}

// text is the characters of text in succession.
func (g *grammar) text(text string) rule {
	var rules []rule
	for _, r := range text {
		rules = append(rules, g.of(string(r)))
	}
	return inTurn(rules...)
}

func inTurn(rules ...rule) rule {
	return func(at int) []int {
		places := []int{at}
		for _, r := range rules {
			var next []int
			for _, place := range places {
				next = append(next, r(place)...)
			}
			places = set(next)
		}
		return places
	}
}

func either(rules ...rule) rule {
	return func(at int) []int {
		var places []int
		for _, r := range rules {
			places = append(places, r(at)...)
		}
		return set(places)
	}
}

// set is the places in their order, each once.
func set(places []int) []int {
	if len(places) < 2 {
		return places
	}
	slices.Sort(places)
	return slices.Compact(places)
}

func nothing(at int) []int {
	return []int{at}
}

func many(r rule) rule {
	return func(at int) []int {
		places := []int{at}
		for i := 0; i < len(places); i++ {
			for _, place := range r(places[i]) {
				if !slices.Contains(places, place) {
					places = append(places, place)
				}
			}
		}
		return places
	}
}

func times(count int, r rule) rule {
	return inTurn(slices.Repeat([]rule{r}, count)...)
}

const (
	decimal = "0123456789"
	hexa    = decimal + "abcdefABCDEF"
	small   = "abcdefghijklmnopqrstuvwxyz"
	marks   = "^$\\.*+?()[]{}|"
)

// rest is what stands behind the beginning of a group.
func (g *grammar) rest() rule {
	pattern := func(at int) []int { return g.whole(at) }
	return inTurn(pattern, g.text(")"))
}

func (g *grammar) term() rule {
	return either(
		g.of("^$"),
		inTurn(g.text("\\"), g.of("bB")),
		inTurn(g.text("("), g.kind(either(g.of("=!"), inTurn(g.text("<"), g.of("=!")))), g.rest()),
		inTurn(g.atom(), either(nothing, g.quantifier())),
	)
}

// kind is the ? behind a ( and what tells the group's kind. What it gets stuck
// at directly behind the ? is the ?'s fault.
func (g *grammar) kind(mark rule) rule {
	told := inTurn(g.text("?"), mark)
	return func(at int) []int {
		if !strings.HasPrefix(g.body[at:], "?") || at+1 == len(g.body) || strings.IndexByte(":=!<", g.body[at+1]) >= 0 {
			return told(at)
		}
		return g.stuck(at)
	}
}

func (g *grammar) quantifier() rule {
	number := inTurn(g.of(decimal), many(g.of(decimal)))
	braces := inTurn(g.text("{"), number, either(nothing, inTurn(g.text(","), either(nothing, number))), g.text("}"))
	return inTurn(either(g.of("*+?"), braces), either(nothing, g.text("?")))
}

func (g *grammar) atom() rule {
	name := inTurn(
		g.one(func(r rune) bool { return uni.Start(int(r)) }),
		many(g.one(func(r rune) bool { return uni.Part(int(r)) })),
		g.text(">"))
	point := either(g.but("\\]"), inTurn(g.text("\\"), either(g.text("b"), g.only(g.text("-")), g.set(), g.escape())))
	return either(
		g.but(marks),
		g.text("."),
		inTurn(g.text("("), g.rest()),
		inTurn(g.text("("), g.kind(either(g.text(":"), inTurn(g.text("<"), name))), g.rest()),
		inTurn(g.text("["), either(nothing, g.text("^")), many(point), g.text("]")),
		inTurn(g.text("\\"), either(g.of("123456789"), inTurn(g.text("k<"), name), g.set(), g.escape())),
	)
}

// only is for the flag u.
func (g *grammar) only(r rule) rule {
	if g.unicode {
		return r
	}
	return g.stuck
}

func (g *grammar) set() rule {
	return either(g.of("dDsSwW"), g.only(inTurn(g.of("pP"), g.text("{"), many(g.but("}")), g.text("}"))))
}

func (g *grammar) escape() rule {
	another := g.one(func(r rune) bool { return !uni.Part(int(r)) })
	if g.unicode {
		another = g.of(marks + "/")
	}
	return either(
		g.of("fnrtv"),
		inTurn(g.text("c"), g.of(small+strings.ToUpper(small))),
		inTurn(g.text("0"), g.noDigit),
		inTurn(g.text("x"), times(2, g.of(hexa))),
		inTurn(g.text("u"), times(4, g.of(hexa))),
		g.only(inTurn(g.text("u{"), g.point)),
		another,
	)
}

func (g *grammar) noDigit(at int) []int {
	if at < len(g.body) && strings.IndexByte(decimal, g.body[at]) >= 0 {
		return g.stuck(at)
	}
	return []int{at}
}

// point is the digits behind u{ and the }.
func (g *grammar) point(at int) []int {
	digits := g.body[at : len(g.body)-len(strings.TrimLeft(g.body[at:], hexa))]
	value := strings.TrimLeft(digits, "0")
	if digits == "" || len(value) > 6 || len(value) == 6 && strings.ToUpper(value) > "10FFFF" {
		return g.stuck(at + len(digits))
	}
	if !strings.HasPrefix(g.body[at+len(digits):], "}") {
		return g.stuck(at + len(digits))
	}
	return []int{at + len(digits) + 1}
}

// event is an error that is detected where something ends.
type event struct {
	end  int
	at   int
	code api.Errno
}

// The pieces are what of a body can have an error of its own, a class, and what
// looks like one of these but isn't. The points are those of a class.
var (
	plainPieces   = regexp.MustCompile(`(\[)|(\{[0-9]+,[0-9]+\})|\(\?<([^=!>][^>]*)>|\(()[^?]|\(()$|\\([1-9][0-9]*)|\\k<([^>]*)>|\\.`)
	unicodePieces = regexp.MustCompile(`(\[)|(\{[0-9]+,[0-9]+\})|\(\?<([^=!>][^>]*)>|\(()[^?]|\(()$|\\([1-9][0-9]*)|\\k<([^>]*)>|\\[pP]\{([^}]*)\}|\\.`)
	plainPoints   = regexp.MustCompile(`^(?:\\(?:x..|u....|c.|.)|[^\\])`)
	unicodePoints = regexp.MustCompile(`^(?:\\(?:x..|u\{[^}]*\}|u[^{]...|c.|[pP]\{[^}]*\}|.)|[^\\])`)
)

// firstPoint is the point that text begins with, or "" if it is cut off.
func firstPoint(text string, unicode bool) string {
	points, escapes := plainPoints, "xuc"
	if unicode {
		points, escapes = unicodePoints, "xucpP"
	}
	point := points.FindString(text)
	if len(point) == 2 && point[0] == '\\' && strings.Contains(escapes, point[1:]) {
		return ""
	}
	return point
}

// worth is what a point denotes, or two things, or -1.
func worth(point string, unicode bool) []int {
	r := []rune(point)
	if r[0] != '\\' {
		high, low := utf16.EncodeRune(r[0])
		if unicode || high == utf8.RuneError {
			return []int{int(r[0])}
		}
		return []int{int(high), int(low)}
	}
	switch digits := strings.Trim(point[2:], "{}"); r[1] {
	case 'd', 'D', 's', 'S', 'w', 'W', 'p', 'P':
		return []int{-1}
	case 'x', 'u':
		value, _ := strconv.ParseInt(digits, 16, 64)
		return []int{int(value)}
	case 'c':
		return []int{int(r[2]) % 32}
	case '0':
		return []int{0}
	}
	if at := strings.IndexRune("btnvfr", r[1]); at >= 0 {
		return []int{8 + at}
	}
	return []int{int(r[1])}
}

// classEvents are the errors of the class at a place, and where it ends.
func classEvents(body string, at int, unicode bool) ([]event, int) {
	var events []event
	at++
	if strings.HasPrefix(body[at:], "^") {
		at++
	}
	from, place, ranged := []int(nil), 0, false
	for at < len(body) && body[at] != ']' {
		if from != nil && !ranged && body[at] == '-' && !strings.HasPrefix(body[at:], "-]") {
			ranged = true
			at++
			continue
		}
		text := firstPoint(body[at:], unicode)
		if text == "" {
			break
		}
		to := worth(text, unicode)
		end := at + len(text)
		if strings.HasPrefix(text, "\\p") || strings.HasPrefix(text, "\\P") {
			events = append(events, propertyEvent(at+3, text[3:len(text)-1]))
		}
		last := from[max(0, len(from)-1):]
		if ranged && (last[0] == -1 || to[0] == -1 || last[0] > to[0]) {
			events = append(events, event{end, place, api.ErrRegexRange})
		}
		place = at
		switch {
		case !ranged:
			from = to
		case len(to) == 2:
			from = to[1:]
		default:
			from = nil
		}
		ranged, at = false, end
	}
	return events, min(at+1, len(body))
}

func propertyEvent(at int, name string) event {
	categories := "L Lu Ll Lt Lm Lo M Mn N Nd P S Z"
	names := strings.Fields(categories + " ASCII Any Alphabetic ID_Start ID_Continue White_Space Uppercase Lowercase Emoji")
	for _, key := range []string{"General_Category", "gc"} {
		for _, value := range strings.Fields(categories) {
			names = append(names, key+"="+value)
		}
	}
	for _, key := range []string{"Script", "sc", "Script_Extensions", "scx"} {
		for _, value := range strings.Fields("Latin Greek Cyrillic Han Hiragana Katakana Arabic Hebrew") {
			names = append(names, key+"="+value)
		}
	}
	if slices.Contains(names, name) {
		return event{}
	}
	return event{at + len(name) + 1, at, api.ErrRegexName}
}

// quantifierEvent is the error of a {n,m}.
func quantifierEvent(at int, text string) event {
	low, high, _ := strings.Cut(strings.Trim(text, "{}"), ",")
	width := max(len(low), len(high))
	if strings.Repeat("0", width-len(high))+high < strings.Repeat("0", width-len(low))+low {
		return event{at + len(text), at, api.ErrRegexRange}
	}
	return event{}
}

// account is what there is in a body beside its form.
type account struct {
	events     []event
	names      []string
	groups     int
	references []func() event
}

// take accounts for the piece at a place of body whose captures are at the
// places m, and tells where the next one may begin.
func (a *account) take(body string, at int, m []int, unicode bool) int {
	piece := func(i int) string {
		if 2*i >= len(m) || m[2*i] < 0 {
			return ""
		}
		return body[at+m[2*i] : at+m[2*i+1]]
	}
	start, end := at+m[0], at+m[1]
	switch {
	case piece(1) != "":
		events, behind := classEvents(body, start, unicode)
		a.events = append(a.events, events...)
		return behind
	case piece(2) != "":
		a.events = append(a.events, quantifierEvent(start, piece(2)))
	case piece(3) != "":
		if slices.Contains(a.names, piece(3)) {
			a.events = append(a.events, event{end, start + 3, api.ErrRegexName})
		}
		a.names = append(a.names, piece(3))
		a.groups++
	case m[8] >= 0 || m[10] >= 0:
		a.groups++
		return start + 1
	case piece(6) != "":
		number := piece(6)
		a.references = append(a.references, func() event {
			value, err := strconv.Atoi(number)
			if err != nil || value > a.groups {
				return event{1, start, api.ErrRegexGroup}
			}
			return event{}
		})
	case piece(7) != "":
		name := piece(7)
		a.references = append(a.references, func() event {
			if !slices.Contains(a.names, name) {
				return event{1, start, api.ErrRegexName}
			}
			return event{}
		})
	case len(m) > 16 && m[16] >= 0:
		a.events = append(a.events, propertyEvent(start+3, piece(8)))
	}
	return end
}

// verdict is what the document says of Check of a body that is not too long.
func (g *grammar) verdict(body string) (int, api.Errno) {
	good := g.reads(body)
	viable := body
	if !good {
		viable = body[:g.furthest]
	}
	var a account
	pieces := plainPieces
	if g.unicode {
		pieces = unicodePieces
	}
	for at := 0; at < len(viable); {
		m := pieces.FindStringSubmatchIndex(viable[at:])
		if m == nil {
			break
		}
		at = a.take(viable, at, m, g.unicode)
	}
	for _, e := range a.events {
		if e.end > 0 {
			return e.at, e.code
		}
	}
	if !good {
		return g.furthest, api.ErrRegexForm
	}
	for _, look := range a.references {
		if e := look(); e.end > 0 {
			return e.at, e.code
		}
	}
	return 0, api.OK
}
