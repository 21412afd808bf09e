package lex

import "platen/api"

// longest is how many bytes a punctuator may have.
const longest = 4

// punctuator reads a punctuator, the longest that stands here.
func (r *reader) punctuator() (int, api.Errno) {
	length := min(longest, len(r.text)-r.at)
lengths:
	for ; length > 1; length-- {
		switch text := r.text[r.at : r.at+length]; {
		case text == "?.":
			// In a?.5:1 the point belongs to the number.
			if !r.digitBehind(length) {
				break lengths
			}
		case joined(text):
			break lengths
		}
	}
	r.at += length
	return api.TokPunct, api.OK
}

// joined reports whether text is a punctuator of more than one byte.
func joined(text string) bool {
	switch text {
	case ">>>=",
		"...", "===", "!==", ">>>", "**=", "<<=", ">>=", "&&=", "||=", "??=",
		"<=", ">=", "==", "!=", "**", "++", "--", "<<", ">>", "&&", "||", "??",
		"?.", "+=", "-=", "*=", "/=", "%=", "&=", "|=", "^=", "=>":
		return true
	}
	return false
}
