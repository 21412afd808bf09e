package ast

import (
	"platen/api"
	"platen/word"
)

// A shape is what the nodes of a kind must be, as far as it doesn't hang on
// where they stand.
type shape struct {
	text spelling
	kids rule
}

// shaped tells whether n is a Program or an expression, and each of its nodes
// has the shape of its kind.
func shaped(n *api.Node) bool {
	if n.Kind != api.NProgram && !expression(n) {
		return false
	}
	table := shapes()
	for _, node := range walk(n) {
		// Every role names the kinds that have it: no other kind comes here.
		if s := &table[node.Kind]; !s.text(node.Text) || !s.kids(node) {
			return false
		}
	}
	return true
}

// shapes tells the shapes of all kinds.
func shapes() []shape {
	table := make([]shape, api.NProgram+1)
	for _, part := range [][]shape{leaves(), operands(), functions(), operations(), patterns(), markup(), statements(), modules()} {
		for kind, s := range part {
			if s.text != nil {
				table[kind] = s
			}
		}
	}
	return table
}

// leaves tells the shapes of the kinds that never have kids.
func leaves() []shape {
	none := row()
	return []shape{
		api.NNone:      {empty, none},
		api.NIdent:     {word.Name, none},
		api.NPrivate:   {private, none},
		api.NNum:       {numeric, none},
		api.NStr:       {literal, none},
		api.NRegex:     {token(api.GoalRegex, api.TokRegex), none},
		api.NWord:      {oneOf("null", "true", "false", "this", "super"), none},
		api.NMeta:      {oneOf("new.target", "import.meta"), none},
		api.NQuasi:     {quasi, none},
		api.NJName:     {tag, none},
		api.NAttrStr:   {token(api.GoalTag, api.TokAttr), none},
		api.NJText:     {token(api.GoalChild, api.TokChild), none},
		api.NEmpty:     {empty, none},
		api.NBreak:     {jump, none},
		api.NContinue:  {jump, none},
		api.NDebugger:  {empty, none},
		api.NDirective: {literal, none},
	}
}

// operands tells the shapes of literals and objects.
func operands() []shape {
	element := either(expression, kinds(api.NSpread))
	methods := oneOf("", "async", "*", "async*", "get", "set",
		"static", "static async", "static *", "static async*", "static get", "static set")
	classKey := either(key, kinds(api.NPrivate))
	return []shape{
		api.NTemplate:    {empty, templated},
		api.NTagged:      {empty, row(expression, kinds(api.NTemplate))},
		api.NArray:       {empty, each(0, optional(element))},
		api.NObject:      {empty, each(0, member)},
		api.NProp:        {oneOf("", "short"), when("short", row(identifier), row(key, expression))},
		api.NComputed:    {empty, row(expression)},
		api.NMethod:      {methods, both(row(classKey, kinds(api.NFunc)), suited)},
		api.NField:       {oneOf("", "static"), row(classKey, optional(expression))},
		api.NStaticBlock: {empty, row(block)},
		api.NSpread:      {empty, row(expression)},
		api.NClassBody:   {empty, each(0, kinds(api.NMethod, api.NField, api.NStaticBlock))},
		api.NArgs:        {empty, each(0, element)},
	}
}

// functions tells the shapes of functions and classes.
func functions() []shape {
	body := kinds(api.NBlock)
	params := kinds(api.NParams)
	return []shape{
		api.NFunc:      {oneOf("", "async", "*", "async*"), row(optional(identifier), params, body)},
		api.NFuncDecl:  {empty, row(kinds(api.NFunc))},
		api.NParams:    {empty, ended(parameter, gathered)},
		api.NArrow:     {oneOf("", "async"), row(params, either(expression, body))},
		api.NClass:     {empty, row(optional(identifier), optional(expression), kinds(api.NClassBody))},
		api.NClassDecl: {empty, row(kinds(api.NClass))},
	}
}

// operations tells the shapes of the other expressions.
func operations() []shape {
	args := kinds(api.NArgs)
	asking := oneOf("", "?.")
	assigning := oneOf("=", "+=", "-=", "*=", "/=", "%=", "**=", "<<=", ">>=", ">>>=",
		"&=", "|=", "^=", "&&=", "||=", "??=")
	hidden := either(expression, kinds(api.NPrivate))
	return []shape{
		api.NParen:      {empty, row(expression)},
		api.NUnary:      {oneOf("delete", "void", "typeof", "+", "-", "~", "!"), row(expression)},
		api.NUpdate:     {oneOf("++x", "--x", "x++", "x--"), row(expression)},
		api.NBinary:     {operator, when("in", row(hidden, expression), row(expression, expression))},
		api.NAssign:     {assigning, when("=", row(assigned, expression), row(target, expression))},
		api.NCond:       {empty, row(expression, expression, expression)},
		api.NSeq:        {empty, each(2, expression)},
		api.NYield:      {oneOf("", "*"), when("*", row(expression), row(optional(expression)))},
		api.NAwait:      {empty, row(expression)},
		api.NCall:       {asking, linked(args)},
		api.NNew:        {empty, row(expression, optional(args))},
		api.NMember:     {asking, linked(kinds(api.NIdent, api.NPrivate))},
		api.NIndex:      {asking, linked(expression)},
		api.NChain:      {empty, chained},
		api.NImportCall: {empty, row(expression)},
	}
}

// patterns tells the shapes of what may stand on the left of =.
func patterns() []shape {
	part := either(assigned, kinds(api.NDefault))
	rest := kinds(api.NRest)
	return []shape{
		api.NArrPat:  {empty, ended(optional(part), rest)},
		api.NObjPat:  {empty, ended(kinds(api.NPropPat), rest)},
		api.NPropPat: {oneOf("", "short"), when("short", row(short), row(key, part))},
		api.NDefault: {empty, row(assigned, expression)},
		api.NRest:    {empty, row(assigned)},
	}
}

// markup tells the shapes of JSX.
func markup() []shape {
	children := kinds(api.NChildren)
	value := either(kinds(api.NAttrStr, api.NElement, api.NFragment), filled)
	child := kinds(api.NJText, api.NContainer, api.NElement, api.NFragment)
	return []shape{
		api.NElement:   {empty, row(kinds(api.NJName), kinds(api.NAttrs), optional(children))},
		api.NAttrs:     {empty, each(0, kinds(api.NAttr, api.NJSpread))},
		api.NAttr:      {attribute, row(optional(value))},
		api.NContainer: {empty, row(optional(expression))},
		api.NJSpread:   {empty, row(expression)},
		api.NFragment:  {empty, row(children)},
		api.NChildren:  {empty, both(each(0, child), parted)},
	}
}

// statements tells the shapes of statements and of their parts.
func statements() []shape {
	variables := kinds(api.NVar)
	loop := row(either(looped, assigned), expression, statement)
	value := optional(expression)
	return []shape{
		api.NExprStmt: {empty, row(expression)},
		api.NBlock:    {empty, directed(statement)},
		api.NVar:      {oneOf("var", "let", "const"), each(1, kinds(api.NDecl))},
		api.NDecl:     {empty, row(binding, value)},
		api.NIf:       {empty, row(expression, statement, optional(statement))},
		api.NFor:      {empty, row(either(variables, value), value, value, statement)},
		api.NForIn:    {empty, loop},
		api.NForOf:    {oneOf("", "await"), loop},
		api.NWhile:    {empty, row(expression, statement)},
		api.NDo:       {empty, row(statement, expression)},
		api.NReturn:   {empty, row(value)},
		api.NThrow:    {empty, row(expression)},
		api.NTry:      {empty, both(row(block, optional(binding), optional(block), optional(block)), saved)},
		api.NSwitch:   {empty, row(expression, kinds(api.NCases))},
		api.NCases:    {empty, both(each(0, kinds(api.NCase)), decided)},
		api.NCase:     {empty, row(value, block)},
		api.NLabel:    {free, row(statement)},
	}
}

// modules tells the shapes of programs, and of what imports and exports.
func modules() []shape {
	name := optional(identifier)
	outside := kinds(api.NIdent, api.NStr)
	specs := kinds(api.NSpecs)
	source := kinds(api.NStr)
	exported := either(kinds(api.NVar), declared)
	whole := either(kinds(api.NFuncDecl, api.NClassDecl), expression)
	return []shape{
		api.NImport:        {empty, both(row(name, name, optional(specs), source), single)},
		api.NSpecs:         {empty, each(0, kinds(api.NSpec))},
		api.NSpec:          {empty, row(outside, outside)},
		api.NExportNamed:   {empty, row(specs, optional(source))},
		api.NExportAll:     {empty, row(optional(outside), source)},
		api.NExportDecl:    {empty, row(exported)},
		api.NExportDefault: {empty, row(whole)},
		api.NProgram:       {empty, directed(item)},
	}
}
