package ast_test

import (
	"regexp"
	"strings"
	"testing"
	"unicode/utf8"

	"platen/api"
	"platen/num"
	"platen/str"
	"platen/word"
)

// grammar is the chapter's table, read from the root down: a name stands for
// the trees that may stand in some place. A kind is followed by the class of
// its Text (none: it is empty) and by its kids: * any number, + at least one,
// ? at most one.
const grammar = `
start = program | expr
none = None
ident = Ident:ident
any = Ident:name
private = Private:private
str = Str:str
num = Num:num
computed = Computed(expr)
key = any | str | num | computed
ckey = key | private
expr = ident | num | str | Regex:regex | Word:plain | Meta:meta | template | Tagged(expr template) | Array(element*)
expr = Object(member*) | func | Arrow:arrow(params expr) | Arrow:arrow(params body) | class | Paren(expr) | Unary:unary(expr) | Update:update(expr)
expr = Binary:binary(expr expr) | Binary:in(private expr) | Assign:equals(target expr) | Assign:equals(pattern expr) | Assign:assign(target expr)
expr = Cond(expr expr expr) | Seq(expr expr+) | Yield(maybe) | Yield:star(expr) | Await(expr) | New(expr args) | New(expr none) | ImportCall(expr) | jsx
expr = Call(object args) | Member(object property) | Index(object expr) | Chain(asked)
maybe = expr | none
super = Word:super
object = expr | super
property = any | private
args = Args(argument*)
argument = expr | spread
spread = Spread(expr)
element = argument | none
template = Template(quasi @pairs)
@pairs = | expr quasi @pairs
quasi = Quasi:quasi
asked = Call:asks(first args) | Member:asks(first property) | Index:asks(first expr) | Call(asked args) | Member(asked property) | Index(asked expr)
first = expr | asked
member = Prop(key expr) | Prop:short(ident) | Method:plainget(key plain) | Method:async(key async) | Method:star(key star) | Method:asyncstar(key asyncstar) | spread
plain = Func(none params body)
async = Func:async(none params body)
star = Func:star(none params body)
asyncstar = Func:asyncstar(none params body)
cmember = Method:cplain(ckey plain) | Method:casync(ckey async) | Method:cstar(ckey star) | Method:casyncstar(ckey asyncstar) | Field:static(ckey maybe) | StaticBlock(block)
func = named | Func:func(none params body)
named = Func:func(ident params body)
params = Params(param* brest?)
param = binding | Default(binding expr)
body = Block(directive* stmt*)
directive = Directive:str
class = cnamed | Class(none maybe cbody)
cnamed = Class(ident maybe cbody)
cbody = ClassBody(cmember*)
target = ident | Member(object property) | Index(object expr) | Paren(target)
pattern = ArrPat(hole* rest?) | ObjPat(prop* rest?)
either = target | pattern
part = either | Default(either expr)
hole = part | none
rest = Rest(either)
prop = PropPat(key part) | PropPat:short(ident) | PropPat:short(valued)
valued = Default(ident expr)
binding = ident | ArrPat(bhole* brest?) | ObjPat(bprop* brest?)
bhole = param | none
brest = Rest(binding)
bprop = PropPat(key param) | PropPat:short(ident) | PropPat:short(valued)
jsx = Element(jname attrs children) | Element(jname attrs none) | Fragment(children)
jname = JName:jname
attrs = Attrs(attr*)
attr = Attr:attr(none) | Attr:attr(value) | JSpread(expr)
value = AttrStr:attrstr | filled | jsx
filled = Container(expr)
children = Children(@children)
@children = | text | child @children | text child @children
text = JText:jtext
child = filled | Container(none) | jsx
stmt = ExprStmt(expr) | block | Empty | var | If(expr stmt stmt) | If(expr stmt none) | For(maybe maybe maybe stmt) | For(var maybe maybe stmt)
stmt = ForIn(left expr stmt) | ForOf:forof(left expr stmt) | While(expr stmt) | Do(stmt expr) | Return(maybe) | Break:jump | Continue:jump | Throw(expr)
stmt = Try(block none none block) | Try(block caught block finally) | Switch(expr cases) | Label:ident(stmt) | Debugger | FuncDecl(named) | ClassDecl(cnamed)
block = Block(stmt*)
var = Var:var(decl+)
decl = Decl(binding maybe)
left = either | Var:var(lone)
lone = Decl(binding none)
caught = binding | none
finally = block | none
cases = Cases(case* default? case*)
case = Case(expr block)
default = Case(none block)
program = Program(directive* item*)
item = stmt | Import(alias alias none str) | Import(alias none specs str) | ExportNamed(specs source) | ExportAll(outside str) | ExportDecl(declared) | ExportDefault(whole)
alias = ident | none
specs = Specs(spec*)
spec = Spec(name name)
name = any | str
source = str | none
outside = name | none
declared = var | FuncDecl(named) | ClassDecl(cnamed)
whole = FuncDecl(func) | ClassDecl(class) | expr
`

// kindNames are the kinds in the order of their numbers.
const kindNames = "None Ident Private Num Str Regex Word Meta Template Quasi Tagged Array Object Prop Computed Method Field StaticBlock Spread Func FuncDecl " +
	"Params Arrow Class ClassDecl ClassBody Paren Unary Update Binary Assign Cond Seq Yield Await Call Args New Member Index Chain ImportCall ArrPat ObjPat PropPat " +
	"Default Rest Element JName Attrs Attr AttrStr Container JSpread JText Fragment Children ExprStmt Block Empty Var Decl If For ForIn ForOf While Do Return Break " +
	"Continue Throw Try Switch Cases Case Label Debugger Directive Import Specs Spec ExportNamed ExportAll ExportDecl ExportDefault Program"

// class is a class of texts: some of them, and which others belong to it.
type class struct {
	samples []string
	holds   func(string) bool
}

// words is the class of some texts, parted by blanks.
func words(list string) class {
	all := strings.Split(list, " ")
	return class{all, func(s string) bool {
		for _, w := range all {
			if s == w {
				return true
			}
		}
		return false
	}}
}

// form is the class of the texts of a form.
func form(expr string, samples ...string) class {
	re := regexp.MustCompile("^(?s:" + expr + ")$")
	return class{samples, func(s string) bool { return utf8.ValidString(s) && re.MatchString(s) }}
}

func classes() map[string]class {
	dashed := `[A-Za-z$_é][-A-Za-z$_0-9é]*`
	attr := dashed + `(:` + dashed + `)?`
	free := func(s string) bool { return word.Name(s) && !word.Reserved(s, false) }
	return map[string]class{
		"":          words(""),
		"name":      {[]string{"if", "a", "yield"}, word.Name},
		"ident":     {[]string{"a", "await", "é"}, free},
		"jump":      {[]string{"", "b"}, func(s string) bool { return s == "" || free(s) }},
		"private":   {[]string{"#a", "#if"}, func(s string) bool { return strings.HasPrefix(s, "#") && word.Name(s[1:]) }},
		"num":       {[]string{"1", "0x1fn", ".5"}, func(s string) bool { return num.Check(s) == api.OK }},
		"str":       {[]string{"'a'", `"\n"`}, func(s string) bool { _, code := str.Check(s); return code == api.OK }},
		"regex":     form(`/([^*/\\[\n\r]|\\[^\n\r]|\[([^\]\\\n\r]|\\[^\n\r])*\])([^/\\[\n\r]|\\[^\n\r]|\[([^\]\\\n\r]|\\[^\n\r])*\])*/[A-Za-z$_0-9é]*`, "/a/g", `/[/]\//`),
		"quasi":     form("(\\{|\\\\.|[^`\\\\${]|\\$+(\\\\.|[^`\\\\${]))*\\$*", "", "a$", "\\`\n"),
		"jname":     form(attr+`|[A-Za-z$_é][A-Za-z$_0-9é]*(\.[A-Za-z$_é][A-Za-z$_0-9é]*)*`, "a", "a-b:c", "a.b.c"),
		"attr":      form(attr, "a", "a-b:c-"),
		"attrstr":   form(`"[^"]*"|'[^']*'`, `"a"`, "'\n\\'"),
		"jtext":     form(`[^{}<>]+`, "t", "\n&"),
		"plain":     words("null true false this"),
		"super":     words("super"),
		"meta":      words("new.target import.meta"),
		"arrow":     {[]string{"", "async"}, words(" async").holds},
		"asks":      words("?."),
		"unary":     words("delete void typeof + - ~ !"),
		"update":    words("++x --x x++ x--"),
		"binary":    words("?? || && | ^ & == != === !== < > <= >= in instanceof << >> >>> + - * / % **"),
		"in":        words("in"),
		"equals":    words("="),
		"assign":    words("= += -= *= /= %= **= <<= >>= >>>= &= |= ^= &&= ||= ??="),
		"short":     words("short"),
		"plainget":  {[]string{"", "get", "set"}, words(" get set").holds},
		"async":     words("async"),
		"star":      words("*"),
		"asyncstar": words("async*"),
		"func":      words(" async * async*"),
		"cplain": {[]string{"", "static", "get", "static set"}, func(s string) bool {
			return s == "static get" || words(" static get set").holds(s) || s == "static set"
		}},
		"casync": {[]string{"async", "static async"}, func(s string) bool { return s == "async" || s == "static async" }},
		"cstar":  {[]string{"*", "static *"}, func(s string) bool { return s == "*" || s == "static *" }},
		"casyncstar": {[]string{"async*", "static async*"}, func(s string) bool {
			return s == "async*" || s == "static async*"
		}},
		"static": words(" static"),
		"forof":  words(" await"),
		"var":    words("var let const"),
	}
}

// production is a kind with its Text and kids, or, with kind -1, another name.
type production struct {
	kind int
	text string // the name of a class
	kids []string
}

// rules are the grammar, and the texts that a look at it needs.
type rules struct {
	trees   map[string][]production
	rows    map[string][][]string
	classes map[string]class
	order   []string
}

func readGrammar(t *testing.T) *rules {
	t.Helper()
	kinds := map[string]int{}
	for i, name := range strings.Fields(kindNames) {
		kinds[name] = i
	}
	if len(kinds) != api.NProgram+1 {
		t.Fatalf("%d kinds", len(kinds))
	}
	g := &rules{map[string][]production{}, map[string][][]string{}, classes(), nil}
	for _, line := range strings.Split(strings.TrimSpace(grammar), "\n") {
		name, right, _ := strings.Cut(line, " =")
		for _, one := range strings.Split(right, "|") {
			one = strings.TrimSpace(one)
			if name[0] == '@' {
				g.rows[name] = append(g.rows[name], strings.Fields(one))
				continue
			}
			g.trees[name] = append(g.trees[name], readProduction(t, g, kinds, one))
		}
		g.order = append(g.order, name)
	}
	return g
}

func readProduction(t *testing.T, g *rules, kinds map[string]int, s string) production {
	t.Helper()
	if s[0] >= 'a' {
		return production{-1, s, nil}
	}
	head, kids, _ := strings.Cut(strings.TrimSuffix(s, ")"), "(")
	name, text, _ := strings.Cut(head, ":")
	kind, ok := kinds[name]
	if _, known := g.classes[text]; !ok || !known {
		t.Fatalf("%q in the grammar", s)
	}
	return production{kind, text, strings.Fields(kids)}
}

// look is one look at a tree: what is known of its nodes already.
type look struct {
	*rules
	known map[asking]bool
}

type asking struct {
	n    *api.Node
	name string
}

// accepts tells whether n is one of the trees that may be given to Check.
func (g *rules) accepts(n *api.Node) bool {
	l := look{g, map[asking]bool{}}
	return l.is(n, "start")
}

func (l look) is(n *api.Node, name string) bool {
	if known, ok := l.known[asking{n, name}]; ok {
		return known
	}
	answer := false
	for _, p := range l.trees[name] {
		if p.kind < 0 {
			answer = answer || l.is(n, p.text)
		} else {
			answer = answer || n.Kind == p.kind && l.classes[p.text].holds(n.Text) && l.row(n.Kids, p.kids)
		}
	}
	if len(l.trees[name]) == 0 {
		panic("no trees for " + name)
	}
	l.known[asking{n, name}] = answer
	return answer
}

// row tells whether kids are of the given names.
func (l look) row(kids []api.Node, names []string) bool {
	if len(names) == 0 {
		return len(kids) == 0
	}
	first, rest := names[0], names[1:]
	if first[0] == '@' {
		for _, one := range l.rows[first] {
			if l.row(kids, append(append([]string{}, one...), rest...)) {
				return true
			}
		}
		return false
	}
	name := strings.TrimRight(first, "*+?")
	many := first[len(name):]
	if (many == "*" || many == "?") && l.row(kids, rest) {
		return true
	}
	if len(kids) == 0 || !l.is(&kids[0], name) {
		return false
	}
	switch many {
	case "*":
		return l.row(kids[1:], names)
	case "+":
		return l.row(kids[1:], append([]string{name + "*"}, rest...))
	}
	return l.row(kids[1:], rest)
}
