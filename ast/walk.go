package ast

import (
	"iter"

	"platen/api"
)

// walk goes through n and all below it in preorder, each with its level; n
// itself is at level 1.
func walk(n *api.Node) iter.Seq2[int, *api.Node] {
	return func(yield func(int, *api.Node) bool) {
		if !yield(1, n) {
			return
		}
		// The kids that are still to come, level by level.
		rest := [][]api.Node{n.Kids}
		for len(rest) > 0 {
			last := len(rest) - 1
			if len(rest[last]) == 0 {
				rest = rest[:last]
				continue
			}
			next := &rest[last][0]
			rest[last] = rest[last][1:]
			if !yield(last+2, next) {
				return
			}
			rest = append(rest, next.Kids)
		}
	}
}

// measure counts the nodes and the levels of n. Kids may be shared, and a tree
// be far greater than what it is kept in: of a tree that is too large, only
// so much is counted.
func measure(n *api.Node) (int, int) {
	size, depth := 0, 0
	for level := range walk(n) {
		size++
		depth = max(depth, level)
		if size > maxSize {
			break
		}
	}
	return size, depth
}

// kid returns the kid of n at a place, and a None where n has none there.
func kid(n *api.Node, at int) *api.Node {
	if at < 0 || at >= len(n.Kids) {
		return &api.Node{}
	}
	return &n.Kids[at]
}
