package resolve_test

import (
	"slices"
	"strings"

	"strata/api"
	"strata/path"
)

// A second, slow telling of the chapter: the tree is a list, which is copied ahead of each change; the pieces are a list that is laid anew at each link; each walk is a row of the table, written out.

// row is how a walk goes on at q: by what it answers.
type row int

const (
	rowFind row = iota
	rowStay
	rowMake
	rowPlace
)

func (r row) String() string {
	return []string{"Find", "Find without last", "Make", "Place"}[r]
}

// told is what a walk comes to.
type told struct {
	answer string
	no     api.Errno
	trail  []string
	tree   []api.Entry
	links  int
}

// plain is a walk under way.
type plain struct {
	row   row
	at    string
	left  []string
	hops  int
	trail []string
	tree  []api.Entry
}

func plainPieces(s string) []string {
	return slices.DeleteFunc(strings.Split(s, "/"), func(piece string) bool { return piece == "" })
}

func plainGet(l []api.Entry, p string) api.Entry {
	for _, e := range l {
		if e.Path == p {
			return e
		}
	}
	return api.Entry{}
}

// plainTold is what a walk of a row over the tree l comes to; with an error the tree is l.
func plainTold(l []api.Entry, way string, r row) told {
	w := &plain{row: r, left: plainPieces(way), trail: []string{""}, tree: l}
	for len(w.left) > 0 {
		c := w.left[0]
		w.left = w.left[1:]
		if no := w.piece(c); no != api.OK {
			return told{no: no, tree: l, links: w.hops}
		}
		w.trail = append(w.trail, w.at)
	}
	return told{answer: w.at, trail: w.trail, tree: w.tree, links: w.hops}
}

func (w *plain) piece(c string) api.Errno {
	if c == "." {
		return api.OK
	}
	if c == ".." {
		names := plainPieces(w.at)
		w.at = strings.Join(names[:max(0, len(names)-1)], "/")
		return api.OK
	}
	q := strings.Join(append(plainPieces(w.at), c), "/")
	e := plainGet(w.tree, q)
	switch e.Kind {
	case api.KNone:
		return w.nothing(c, q)
	case api.KDir:
		w.at = q
	case api.KFile:
		if w.row == rowMake || len(w.left) > 0 {
			return api.ErrDir
		}
		w.at = q
	case api.KLink:
		if w.row == rowStay && len(w.left) == 0 {
			w.at = q
			return api.OK
		}
		return w.link(e.Link)
	}
	return api.OK
}

func (w *plain) nothing(c, q string) api.Errno {
	if w.row == rowFind || w.row == rowStay {
		return api.ErrNone
	}
	if path.Name(c) != nil {
		return api.ErrName
	}
	if path.Check(q) != nil {
		return api.ErrPath
	}
	w.at = q
	if w.row == rowPlace && len(w.left) == 0 {
		return api.OK
	}
	if len(w.tree) == 4096 {
		return api.ErrMany
	}
	w.tree = plainWith(w.tree, api.Entry{Path: q, Kind: api.KDir, Mode: 493})
	return api.OK
}

func (w *plain) link(target string) api.Errno {
	if w.hops == 40 {
		return api.ErrLoop
	}
	w.hops++
	if target[0] == '/' {
		w.at = ""
	}
	w.left = slices.Concat(plainPieces(target), w.left)
	return api.OK
}

// plainWith is a list with some entries more, in order.
func plainWith(l []api.Entry, more ...api.Entry) []api.Entry {
	with := slices.Concat(l, more)
	slices.SortFunc(with, func(a, b api.Entry) int {
		return slices.Compare(strings.Split(a.Path, "/"), strings.Split(b.Path, "/"))
	})
	return with
}
