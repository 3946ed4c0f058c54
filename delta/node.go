package delta

import (
	"errors"
	"maps"
	"slices"
	"strings"

	"strata/api"
	"strata/path"
	"strata/tree"
)

// node is an entry, or the root, with what stands in it by its names. A tree.Tree won't do: between two changes there may be more than a tree has.
type node struct {
	entry    api.Entry
	children map[string]*node // nil, but of a directory
}

func newNode(e api.Entry) *node {
	if e.Kind != api.KDir {
		return &node{entry: e}
	}
	return &node{entry: e, children: map[string]*node{}}
}

// grown is the root of a tree.
func grown(t []api.Entry) *node {
	root := newNode(api.Entry{Kind: api.KDir})
	for _, e := range t {
		root.at(path.Parent(e.Path)).children[path.Last(e.Path)] = newNode(e)
	}
	return root
}

// at is what stands at a path below the node, the node itself at the empty one; nil, if nothing does.
func (n *node) at(p string) *node {
	if p == "" {
		return n
	}
	here := n
	// Empty pieces count: no name is empty, so nothing stands at a text with one.
	for name := range strings.SplitSeq(p, "/") {
		here = here.children[name]
		if here == nil {
			return nil
		}
	}
	return here
}

// do does a change to the tree of which the node is the root.
func (n *node) do(c api.Change) error {
	if c.Gone {
		return n.take(c.Path)
	}
	if c.Entry.Path != c.Path {
		return api.ErrArg
	}
	return n.lay(c.Entry)
}

// take takes away what stands at a path, and all below it.
func (n *node) take(p string) error {
	if p == "" {
		return api.ErrRoot
	}
	if n.at(p) == nil {
		return api.ErrNone
	}
	delete(n.at(path.Parent(p)).children, path.Last(p))
	return nil
}

// lay puts an entry at its path, as tree.Put does, but without its limits.
func (n *node) lay(e api.Entry) error {
	if err := wrong(e); err != nil {
		return err
	}
	parent := n.at(path.Parent(e.Path))
	if parent == nil {
		return api.ErrNone
	}
	if parent.entry.Kind != api.KDir {
		return api.ErrDir
	}
	old := parent.children[path.Last(e.Path)]
	if old == nil {
		parent.children[path.Last(e.Path)] = newNode(e)
		return nil
	}
	if !sameSort(old.entry, e) {
		return api.ErrKind
	}
	// What lies below a directory stays.
	old.entry = e
	return nil
}

// wrong is what is wrong with an entry by itself.
func wrong(e api.Entry) error {
	err := tree.New().Put(e)
	// An empty tree hasn't the parent, which is nothing that the entry has by itself.
	if errors.Is(err, api.ErrNone) {
		return nil
	}
	return err
}

// collect puts all that lies below the node behind l, in the order of paths: each entry ahead of what lies below it.
func (n *node) collect(l []api.Entry) []api.Entry {
	for _, name := range slices.Sorted(maps.Keys(n.children)) {
		child := n.children[name]
		l = child.collect(append(l, child.entry))
	}
	return l
}
