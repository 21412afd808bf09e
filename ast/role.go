package ast

import (
	"strings"

	"platen/api"
	"platen/word"
)

// A role tells whether a node may stand where it stands, as far as the shape
// of its own kind doesn't say so already: that of every node is looked at by
// itself.
type role func(n *api.Node) bool

// kinds is the role of the nodes of some kinds.
func kinds(list ...int) role {
	return func(n *api.Node) bool {
		for _, kind := range list {
			if n.Kind == kind {
				return true
			}
		}
		return false
	}
}

// either is the role of what has one of some roles.
func either(roles ...role) role {
	return func(n *api.Node) bool {
		for _, fits := range roles {
			if fits(n) {
				return true
			}
		}
		return false
	}
}

// optional is the role of what may be absent.
func optional(fits role) role {
	return func(n *api.Node) bool {
		return n.Kind == api.NNone || fits(n)
	}
}

// identifier: that the Text is a name is said by the shape of an Ident.
func identifier(n *api.Node) bool {
	return n.Kind == api.NIdent && !word.Reserved(n.Text, false)
}

// key is the role of the keys outside classes.
func key(n *api.Node) bool {
	switch n.Kind {
	case api.NIdent, api.NStr, api.NNum, api.NComputed:
		return true
	}
	return false
}

// expression is the role of a whole expression: super and links that are asked
// for are only parts of one.
func expression(n *api.Node) bool {
	switch n.Kind {
	case api.NIdent:
		return identifier(n)
	case api.NWord:
		return n.Text != "super"
	case api.NCall, api.NMember, api.NIndex:
		return !asked(n)
	case api.NNum, api.NStr, api.NRegex, api.NMeta, api.NTemplate,
		api.NTagged, api.NArray, api.NObject, api.NFunc, api.NArrow,
		api.NClass, api.NParen, api.NUnary, api.NUpdate, api.NBinary,
		api.NAssign, api.NCond, api.NSeq, api.NYield, api.NAwait,
		api.NNew, api.NChain, api.NImportCall, api.NElement, api.NFragment:
		return true
	}
	return false
}

// link is the role of a Call, Member or Index, also within a Chain.
func link(n *api.Node) bool {
	return n.Kind == api.NCall || n.Kind == api.NMember || n.Kind == api.NIndex
}

// asked tells whether a ?. stands in the row of links that ends with n.
func asked(n *api.Node) bool {
	for ; link(n); n = kid(n, 0) {
		if n.Text == "?." {
			return true
		}
	}
	return false
}

// target: links within a Chain have no role but that of its links, so that
// only a ?. remains to be looked for.
func target(n *api.Node) bool {
	for n.Kind == api.NParen {
		n = kid(n, 0)
	}
	switch n.Kind {
	case api.NIdent:
		return identifier(n)
	case api.NMember, api.NIndex:
		return !asked(n)
	}
	return false
}

func pattern(n *api.Node) bool {
	return n.Kind == api.NArrPat || n.Kind == api.NObjPat
}

// assigned is the role of what = may be written behind.
func assigned(n *api.Node) bool {
	return target(n) || pattern(n)
}

// short is the role of a name in an ObjPat that is its own key.
func short(n *api.Node) bool {
	return identifier(n) || n.Kind == api.NDefault && identifier(kid(n, 0))
}

// binding follows a pattern down to all names in it. As no two bindings have a
// pattern in common, no node is met twice in this way.
func binding(n *api.Node) bool {
	switch n.Kind {
	case api.NIdent:
		return identifier(n)
	case api.NArrPat, api.NObjPat:
		for i := range n.Kids {
			if !bindingPart(&n.Kids[i]) {
				return false
			}
		}
		return true
	}
	return false
}

// bindingPart is the role of a kid of a pattern that is a binding.
func bindingPart(n *api.Node) bool {
	switch n.Kind {
	case api.NNone:
		return true
	case api.NPropPat:
		return parameter(kid(n, len(n.Kids)-1))
	}
	return parameter(n) || gathered(n)
}

// parameter is the role of a binding with a value or without one.
func parameter(n *api.Node) bool {
	if n.Kind == api.NDefault {
		n = kid(n, 0)
	}
	return binding(n)
}

// gathered is the role of a Rest of a binding.
func gathered(n *api.Node) bool {
	return n.Kind == api.NRest && binding(kid(n, 0))
}

// block is the role of a Block that is not the body of a function.
func block(n *api.Node) bool {
	return n.Kind == api.NBlock && kid(n, 0).Kind != api.NDirective
}

func statement(n *api.Node) bool {
	switch n.Kind {
	case api.NBlock:
		return block(n)
	case api.NFuncDecl, api.NClassDecl:
		return declared(n)
	case api.NExprStmt, api.NEmpty, api.NVar, api.NIf, api.NFor, api.NForIn,
		api.NForOf, api.NWhile, api.NDo, api.NReturn, api.NBreak,
		api.NContinue, api.NThrow, api.NTry, api.NSwitch, api.NLabel,
		api.NDebugger:
		return true
	}
	return false
}

// declared is the role of a function or class that has a name.
func declared(n *api.Node) bool {
	if n.Kind != api.NFuncDecl && n.Kind != api.NClassDecl {
		return false
	}
	return kid(kid(n, 0), 0).Kind != api.NNone
}

// item is the role of what may stand in a Program behind the Directives.
func item(n *api.Node) bool {
	switch n.Kind {
	case api.NImport, api.NExportNamed, api.NExportAll, api.NExportDecl, api.NExportDefault:
		return true
	}
	return statement(n)
}

// member is the role of what may stand in an Object.
func member(n *api.Node) bool {
	switch n.Kind {
	case api.NProp, api.NSpread:
		return true
	case api.NMethod:
		return !strings.HasPrefix(n.Text, "static") && key(kid(n, 0))
	}
	return false
}

// looped is the role of the Var in the head of a ForIn or ForOf.
func looped(n *api.Node) bool {
	return n.Kind == api.NVar && len(n.Kids) == 1 && kid(&n.Kids[0], 1).Kind == api.NNone
}

// filled is the role of a Container with an expression.
func filled(n *api.Node) bool {
	return n.Kind == api.NContainer && kid(n, 0).Kind != api.NNone
}
