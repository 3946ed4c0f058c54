package layer

import (
	"maps"
	"slices"

	"strata/api"
	"strata/path"
)

// madeMode is the mode of directories that a layer leaves out.
const madeMode = 493

// ground is what a layer is laid over, while that is done. A tree.Tree won't do: between two entries there may be more than a tree has.
type ground struct {
	// there is what stands there, by its path; what is hidden is deleted last of all.
	there map[string]api.Entry
	// hidden are the paths of there at which nothing is to be seen any more; what comes back is deleted.
	hidden map[string]struct{}
	// inside are the paths of there that stand in a directory, so that all below it is found without a look at the rest.
	inside map[string][]string
}

// groundOf is a tree of which nothing is hidden.
func groundOf(t []api.Entry) *ground {
	g := &ground{there: map[string]api.Entry{}, hidden: map[string]struct{}{}, inside: map[string][]string{}}
	for _, e := range t {
		g.set(e)
	}
	return g
}

// hide hides what the whiteouts and marks of a layer hide of a tree.
func (g *ground) hide(t []api.Entry, f api.Foreign) {
	gone, marked := setOf(f.Gone), setOf(f.Opaque)
	for _, e := range t {
		dir := path.Parent(e.Path)
		// The directory stands ahead of what is in it, so all that hides it is known by now.
		if has(gone, e.Path) || has(marked, dir) || has(g.hidden, dir) {
			g.hidden[e.Path] = struct{}{}
		}
	}
}

// lay puts an entry at its path, whatever stands in its way.
func (g *ground) lay(e api.Entry) {
	for i, c := range e.Path {
		if c == '/' {
			g.makeDir(e.Path[:i])
		}
	}
	if e.Kind != api.KDir {
		g.empty(e.Path)
	}
	g.set(e)
}

// makeDir makes a directory at a path whose parent is one, unless it is there.
func (g *ground) makeDir(p string) {
	if has(g.hidden, p) || g.there[p].Kind != api.KDir {
		g.set(api.Entry{Path: p, Kind: api.KDir, Mode: madeMode})
	}
}

// set puts an entry in the place of what there was at its path, which may have been hidden.
func (g *ground) set(e api.Entry) {
	if _, known := g.there[e.Path]; !known {
		dir := path.Parent(e.Path)
		g.inside[dir] = append(g.inside[dir], e.Path)
	}
	g.there[e.Path] = e
	delete(g.hidden, e.Path)
}

// empty takes away all that lies below a path.
func (g *ground) empty(dir string) {
	for _, p := range g.inside[dir] {
		g.empty(p)
		delete(g.there, p)
		delete(g.hidden, p)
	}
	delete(g.inside, dir)
}

// left is the tree that is there in the end.
func (g *ground) left() ([]api.Entry, error) {
	for p := range g.hidden {
		delete(g.there, p)
	}
	bytes := 0
	for _, e := range g.there {
		bytes += len(e.Data)
	}
	if len(g.there) > api.MaxEntries || bytes > api.MaxTree {
		return nil, api.ErrMany
	}
	return slices.SortedFunc(maps.Values(g.there), byPath), nil
}

func byPath(a, b api.Entry) int { return path.Compare(a.Path, b.Path) }

func setOf(l []string) map[string]struct{} {
	set := make(map[string]struct{}, len(l))
	for _, s := range l {
		set[s] = struct{}{}
	}
	return set
}

func has(set map[string]struct{}, s string) bool {
	_, ok := set[s]
	return ok
}
