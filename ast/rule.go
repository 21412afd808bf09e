package ast

import (
	"strings"

	"platen/api"
)

// A rule tells whether the kids of a node are those that its kind and its Text
// ask for.
type rule func(n *api.Node) bool

// row asks for one kid of each role.
func row(roles ...role) rule {
	return func(n *api.Node) bool {
		if len(n.Kids) != len(roles) {
			return false
		}
		for i, fits := range roles {
			if !fits(&n.Kids[i]) {
				return false
			}
		}
		return true
	}
}

// each asks for any number of kids of one role, but not for fewer than least.
func each(least int, fits role) rule {
	return func(n *api.Node) bool {
		for i := range n.Kids {
			if !fits(&n.Kids[i]) {
				return false
			}
		}
		return len(n.Kids) >= least
	}
}

// ended asks for kids of one role; the last one may have a role of its own.
func ended(fits role, last role) rule {
	return func(n *api.Node) bool {
		for i := range n.Kids {
			if !fits(&n.Kids[i]) && (i+1 < len(n.Kids) || !last(&n.Kids[i])) {
				return false
			}
		}
		return true
	}
}

// directed asks for kids of one role behind any number of Directives.
func directed(fits role) rule {
	return func(n *api.Node) bool {
		begun := false
		for i := range n.Kids {
			directive := n.Kids[i].Kind == api.NDirective && !begun
			if !directive && !fits(&n.Kids[i]) {
				return false
			}
			begun = !directive
		}
		return true
	}
}

// when asks otherwise of a node with a certain Text.
func when(text string, then rule, otherwise rule) rule {
	return func(n *api.Node) bool {
		if n.Text == text {
			return then(n)
		}
		return otherwise(n)
	}
}

// both asks for what two rules ask for.
func both(one rule, other rule) rule {
	return func(n *api.Node) bool {
		return one(n) && other(n)
	}
}

// linked asks for what a link is fastened to, and for one more kid. A link that
// is asked for may come first: that it is in a Chain is seen at the link that
// the row of links ends with.
func linked(last role) rule {
	return func(n *api.Node) bool {
		if len(n.Kids) != 2 || !last(&n.Kids[1]) {
			return false
		}
		first := &n.Kids[0]
		super := first.Kind == api.NWord && n.Text == ""
		return link(first) || super || expression(first)
	}
}

// chained asks for a row of links one of which is asked for.
func chained(n *api.Node) bool {
	return len(n.Kids) == 1 && asked(&n.Kids[0])
}

// templated asks for Quasis and expressions by turns.
func templated(n *api.Node) bool {
	for i := range n.Kids {
		piece := &n.Kids[i]
		if i%2 == 0 && piece.Kind != api.NQuasi || i%2 == 1 && !expression(piece) {
			return false
		}
	}
	return len(n.Kids)%2 == 1
}

// suited asks of a Method for a function without a name that is of the
// Method's sort.
func suited(n *api.Node) bool {
	sort := strings.TrimPrefix(strings.TrimPrefix(n.Text, "static"), " ")
	if sort == "get" || sort == "set" {
		sort = ""
	}
	function := kid(n, 1)
	return function.Text == sort && kid(function, 0).Kind == api.NNone
}

// parted asks of Children that no two JTexts touch.
func parted(n *api.Node) bool {
	text := false
	for i := range n.Kids {
		again := n.Kids[i].Kind == api.NJText
		if text && again {
			return false
		}
		text = again
	}
	return true
}

// saved asks of a Try for a Block behind its first, and for a Block of catch
// if there is a binding.
func saved(n *api.Node) bool {
	name, caught, last := kid(n, 1).Kind, kid(n, 2).Kind, kid(n, 3).Kind
	if caught == api.NNone {
		return name == api.NNone && last != api.NNone
	}
	return true
}

// decided asks of Cases that at most one has no test.
func decided(n *api.Node) bool {
	without := 0
	for i := range n.Kids {
		if kid(&n.Kids[i], 0).Kind == api.NNone {
			without++
		}
	}
	return without <= 1
}

// single asks of an Import not to have both a namespace and Specs.
func single(n *api.Node) bool {
	return kid(n, 1).Kind == api.NNone || kid(n, 2).Kind == api.NNone
}
