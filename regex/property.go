package regex

import (
	"strings"

	"platen/api"
)

// property reads a property in braces.
func (r *reader) property() {
	r.expect('{')
	first := r.at
	for r.peek() != '}' {
		r.character(anything)
	}
	if !known(r.body[first:r.at]) {
		throw(first, api.ErrRegexName)
	}
	r.at++
}

// known reports whether there is a property of that name.
func known(name string) bool {
	key, value, valued := strings.Cut(name, "=")
	if !valued {
		return category(name) || binary(name)
	}
	switch key {
	case "General_Category", "gc":
		return category(value)
	case "Script", "sc", "Script_Extensions", "scx":
		return script(value)
	}
	return false
}

// category reports whether name is that of a general category.
func category(name string) bool {
	switch name {
	case "L", "Lu", "Ll", "Lt", "Lm", "Lo", "M", "Mn", "N", "Nd", "P", "S", "Z":
		return true
	}
	return false
}

// binary reports whether name is that of a property without a value.
func binary(name string) bool {
	switch name {
	case "ASCII", "Any", "Alphabetic", "ID_Start", "ID_Continue", "White_Space", "Uppercase", "Lowercase", "Emoji":
		return true
	}
	return false
}

// script reports whether name is that of a script.
func script(name string) bool {
	switch name {
	case "Latin", "Greek", "Cyrillic", "Han", "Hiragana", "Katakana", "Arabic", "Hebrew":
		return true
	}
	return false
}
