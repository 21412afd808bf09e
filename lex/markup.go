package lex

import "platen/api"

// tag reads a token within a tag.
func (r *reader) tag() (int, api.Errno) {
	switch c, size := r.look(); c {
	case ended:
		return api.TokEnd, api.OK
	case '<', '>', '/', '{', '=', '.', ':':
		r.at += size
		return api.TokPunct, api.OK
	case '"', '\'':
		return r.attribute()
	}
	return r.name(true)
}

// attribute reads the text of an attribute, in which nothing is escaped.
func (r *reader) attribute() (int, api.Errno) {
	from := r.at
	quote, size := r.look()
	for {
		r.at += size
		var c int
		c, size = r.look()
		switch c {
		case broken:
			return 0, api.ErrLexByte
		case ended:
			return 0, r.fail(from, api.ErrLexString)
		case quote:
			r.at += size
			return api.TokAttr, api.OK
		}
	}
}

// child reads a token between tags.
func (r *reader) child() (int, api.Errno) {
	switch c, size := r.look(); c {
	case ended:
		return api.TokEnd, api.OK
	case '{', '<':
		r.at += size
		return api.TokPunct, api.OK
	case '}', '>':
		return 0, api.ErrLexByte
	}
	for {
		c, size := r.look()
		switch c {
		case broken:
			return 0, api.ErrLexByte
		case ended, '{', '}', '<', '>':
			return api.TokChild, api.OK
		}
		r.at += size
	}
}
