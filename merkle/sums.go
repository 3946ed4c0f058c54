package merkle

import (
	"errors"
	"slices"
	"strconv"

	"strata/api"
	"strata/digest"
	"strata/path"
	"strata/tree"
)

// rootMode is the mode of every tree's root.
const rootMode = 493

// sums is a tree of which all digests are taken.
type sums struct {
	root   api.Digest
	texts  []string          // of the entries, in their order; of the root behind them
	levels map[string]*level // of the directories, by their paths
}

// sumUp takes the digests of a tree, or is what is wrong with it.
func sumUp(width int, t []api.Entry) (*sums, error) {
	if err := tree.Check(t); err != nil {
		return nil, err
	}
	s := lay(t)
	// What lies below a directory stands behind it, so its digests are taken first.
	for i, e := range slices.Backward(t) {
		s.texts[i] = s.text(width, e)
		dir := s.levels[path.Parent(e.Path)]
		dir.children = append(dir.children, child{path.Last(e.Path), digest.Sum(width, s.texts[i])})
	}
	s.texts[len(t)] = s.text(width, api.Entry{Kind: api.KDir})
	s.root = digest.Sum(width, s.texts[len(t)])
	return s, nil
}

// lay makes room for a tree's sums: of each directory a level, with nothing in it yet.
func lay(t []api.Entry) *sums {
	s := &sums{texts: make([]string, len(t)+1), levels: map[string]*level{"": {mode: rootMode}}}
	for _, e := range t {
		if e.Kind == api.KDir {
			s.levels[e.Path] = &level{mode: e.Mode}
		}
	}
	return s
}

// text is an entry's; of a directory the digests of all that stands in it are taken.
func (s *sums) text(width int, e api.Entry) string {
	if e.Kind != api.KDir {
		return leaf(width, e)
	}
	l := s.levels[e.Path]
	l.order()
	return l.text()
}

// leaf is the text of a file or a link.
func leaf(width int, e api.Entry) string {
	if e.Kind == api.KLink {
		return digest.Pieces("link", e.Link)
	}
	data := digest.Sum(width, e.Data)
	return digest.Pieces("file", octal(e.Mode), string(data[:]))
}

func octal(mode int) string { return strconv.FormatInt(int64(mode), 8) }

// wrong is what is wrong with an entry by itself; a directory without a path is the root.
func wrong(e api.Entry) error {
	if e.Kind == api.KDir && e.Path == "" {
		e.Path = "root"
	}
	err := tree.New().Put(e)
	// An empty tree hasn't the parent, which is nothing that the entry has by itself.
	if errors.Is(err, api.ErrNone) {
		return nil
	}
	return err
}
