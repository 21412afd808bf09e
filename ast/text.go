package ast

import (
	"slices"
	"strings"

	"platen/api"
	"platen/lex"
	"platen/num"
	"platen/str"
	"platen/word"
)

// A spelling tells whether a text may be the Text of a node.
type spelling func(s string) bool

// empty is the spelling of a kind without a text.
func empty(s string) bool {
	return s == ""
}

// oneOf is the spelling by some texts.
func oneOf(texts ...string) spelling {
	return func(s string) bool {
		return slices.Contains(texts, s)
	}
}

// token is the spelling by the tokens of a kind, read for a goal.
func token(goal int, kind int) spelling {
	return func(s string) bool {
		return reads(s, goal, kind)
	}
}

// reads tells whether s is one token, without a blank or comment ahead of it.
func reads(s string, goal int, kind int) bool {
	t, _, _, code := lex.Next(s, 0, goal)
	return code == api.OK && t.Kind == kind && t.From == 0 && t.To == len(s)
}

// quasi: what stands between backquotes may stand between the other
// delimiters of a template, too.
func quasi(s string) bool {
	return reads("`"+s+"`", api.GoalDiv, api.TokQuasi)
}

func numeric(s string) bool {
	return num.Check(s) == api.OK
}

func literal(s string) bool {
	_, code := str.Check(s)
	return code == api.OK
}

func private(s string) bool {
	name, hash := strings.CutPrefix(s, "#")
	return hash && word.Name(name)
}

// free is the spelling of what may be used as an identifier.
func free(s string) bool {
	return word.Name(s) && !word.Reserved(s, false)
}

// jump is the spelling of the label of a jump, or of none.
func jump(s string) bool {
	return s == "" || free(s)
}

func operator(s string) bool {
	return word.Level(s) != 0
}

// dashed is the spelling of a name within a tag.
func dashed(s string) bool {
	return reads(s, api.GoalTag, api.TokName)
}

// attribute is the spelling of the name of an attribute: one or two names.
func attribute(s string) bool {
	space, name, two := strings.Cut(s, ":")
	return dashed(space) && (!two || dashed(name))
}

// tag is the spelling of the name of an element.
func tag(s string) bool {
	if !strings.Contains(s, ".") {
		return attribute(s)
	}
	for name := range strings.SplitSeq(s, ".") {
		if !word.Name(name) {
			return false
		}
	}
	return true
}
