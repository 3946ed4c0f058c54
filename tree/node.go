package tree

import (
	"iter"
	"maps"
	"slices"

	"strata/api"
)

// node is an entry, or the root, with what stands in it by its names. Only of a directory are there children.
type node struct {
	entry    api.Entry
	children map[string]*node
}

func newNode(e api.Entry) *node {
	if e.Kind != api.KDir {
		return &node{entry: e}
	}
	return &node{entry: e, children: map[string]*node{}}
}

// below hands out all that lies below the node, in the order of paths: each one ahead of what lies below it.
func (n *node) below() iter.Seq[api.Entry] {
	return func(yield func(api.Entry) bool) { n.hand(yield) }
}

// hand tells whether more is wanted.
func (n *node) hand(yield func(api.Entry) bool) bool {
	for _, name := range slices.Sorted(maps.Keys(n.children)) {
		child := n.children[name]
		if !yield(child.entry) || !child.hand(yield) {
			return false
		}
	}
	return true
}

func (n *node) clone() *node {
	twin := newNode(n.entry)
	for name, child := range n.children {
		twin.children[name] = child.clone()
	}
	return twin
}
