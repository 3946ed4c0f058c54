package merkle

import (
	"slices"
	"strings"

	"strata/api"
	"strata/digest"
)

// child is what stands right in a directory.
type child struct {
	name   string
	digest api.Digest
}

// level is all that a directory's text tells.
type level struct {
	mode     int
	children []child
}

// order puts the children in the order of the directory's text.
func (l *level) order() {
	slices.SortFunc(l.children, func(a, b child) int { return strings.Compare(a.name, b.name) })
}

// text is the directory's; its children are in order.
func (l *level) text() string {
	pieces := []string{"dir", octal(l.mode)}
	for _, c := range l.children {
		pieces = append(pieces, c.name, string(c.digest[:]))
	}
	return digest.Pieces(pieces...)
}

// told is the level as a proof has it.
func (l *level) told() api.Level {
	x := api.Level{Mode: l.mode}
	for _, c := range l.children {
		x.Names = append(x.Names, c.name)
		x.Digests = append(x.Digests, c.digest)
	}
	return x
}

// holds is nil, if just that child stands in the directory.
func (l *level) holds(c child) error {
	for _, other := range l.children {
		if other == c {
			return nil
		}
		if other.name == c.name {
			return api.ErrSum
		}
	}
	return api.ErrNone
}

// read is the levels of a proof that must have so many of them.
func read(x api.Proof, many int) ([]level, error) {
	if len(x.Levels) != many {
		return nil, api.ErrForm
	}
	levels := make([]level, many)
	for i, told := range x.Levels {
		if !formed(told) {
			return nil, api.ErrForm
		}
		l := level{mode: told.Mode}
		for k, name := range told.Names {
			l.children = append(l.children, child{name, told.Digests[k]})
		}
		levels[i] = l
	}
	return levels, nil
}

// formed tells whether a level could be one of a directory, whatever its names are.
func formed(l api.Level) bool {
	if len(l.Digests) != len(l.Names) || l.Mode < 0 || l.Mode > api.MaxMode {
		return false
	}
	for i := 1; i < len(l.Names); i++ {
		if l.Names[i-1] >= l.Names[i] {
			return false
		}
	}
	return true
}
