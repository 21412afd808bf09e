package lex

import (
	"platen/api"
	"platen/uni"
)

// gap is what stands between two tokens.
type gap struct {
	comments []api.Comment
	line     bool // a line ends in it
}

// skip goes to the next token, and puts what it passes into g.
func (r *reader) skip(g *gap) api.Errno {
	for {
		c, size := r.look()
		switch {
		case c == broken:
			return api.ErrLexByte
		case uni.Ends(c):
			g.line = true
			r.at += size
		case uni.Blank(c):
			r.at += size
		default:
			kind := r.opens()
			if kind == 0 {
				return api.OK
			}
			from := r.at
			if code := r.comment(kind, g); code != api.OK {
				return code
			}
			text := r.text[from:r.at]
			g.comments = append(g.comments, api.Comment{Kind: kind, Text: text, From: from, To: r.at})
		}
	}
}

// opens tells the kind of the comment that begins here, or 0 if none does.
func (r *reader) opens() int {
	switch {
	case r.follows("//"):
		return api.LineComment
	case r.follows("/*"):
		return api.BlockComment
	case r.at == 0 && r.follows("#!"):
		return api.Hashbang
	}
	return 0
}

// comment reads a comment of a kind.
func (r *reader) comment(kind int, g *gap) api.Errno {
	if kind == api.BlockComment {
		return r.block(g)
	}
	for {
		c, size := r.look()
		switch {
		case c == broken:
			return api.ErrLexByte
		case c == ended || uni.Ends(c):
			return api.OK
		}
		r.at += size
	}
}

// block reads a block comment; the lines that end in it end in g.
func (r *reader) block(g *gap) api.Errno {
	from := r.at
	// The * that opens the comment doesn't close it as well.
	r.at += len("/*")
	for !r.follows("*/") {
		c, size := r.look()
		switch {
		case c == broken:
			return api.ErrLexByte
		case c == ended:
			return r.fail(from, api.ErrLexComment)
		case uni.Ends(c):
			g.line = true
		}
		r.at += size
	}
	r.at += len("*/")
	return api.OK
}
