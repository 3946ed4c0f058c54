package resolve

import (
	"slices"
	"strings"

	"strata/api"
	"strata/path"
	"strata/tree"
)

// madeMode is the mode of directories that a walk makes.
const madeMode = 493

// manner is what sets one kind of walk apart from another.
type manner struct {
	absent func(w *walk, p string) error // what becomes of a path at which nothing is; without an error the walk then stands there
	dirs   bool                          // a file is refused even at the end
	stay   bool                          // a link at the end is not followed
	passed func(p string)                // is told where the walk stands behind each piece; nil: nobody asks
}

// walk goes over the pieces of a way. While a piece is left it stands at a directory.
type walk struct {
	manner
	tree *tree.Tree
	at   string
	left []string // last one first, so that a link's pieces come ahead of the others by standing behind them
	hops int
	made []string
}

// lead is the one loop over pieces: where it stands in the end, or the error that ended it, and then nothing is left of what it made.
func lead(t *tree.Tree, way string, m manner) (string, error) {
	w := &walk{manner: m, tree: t}
	w.ahead(way)
	for !w.ends() {
		if err := w.step(w.next()); err != nil {
			w.undo()
			return "", err
		}
		if w.passed != nil {
			w.passed(w.at)
		}
	}
	return w.at, nil
}

// ahead puts the pieces of a text ahead of those that are left.
func (w *walk) ahead(s string) {
	others := len(w.left)
	w.left = slices.AppendSeq(w.left, path.Pieces(s))
	slices.Reverse(w.left[others:])
}

// next takes off the first piece that is left.
func (w *walk) next() string {
	end := len(w.left) - 1
	piece := w.left[end]
	w.left = w.left[:end]
	return piece
}

func (w *walk) step(piece string) error {
	switch piece {
	case ".":
		return nil
	case "..":
		w.at = path.Parent(w.at)
		return nil
	}
	p := path.Join(w.at, piece)
	e, there := w.tree.Get(p)
	switch {
	case !there:
		if err := w.absent(w, p); err != nil {
			return err
		}
	case e.Kind == api.KFile && (w.dirs || !w.ends()):
		return api.ErrDir
	case e.Kind == api.KLink && !(w.stay && w.ends()):
		return w.follow(e.Link)
	}
	w.at = p
	return nil
}

// ends tells whether no piece is left.
func (w *walk) ends() bool { return len(w.left) == 0 }

// follow goes on along a link that stands in the directory where the walk does.
func (w *walk) follow(target string) error {
	if w.hops == api.MaxHops {
		return api.ErrLoop
	}
	w.hops++
	if strings.HasPrefix(target, "/") {
		w.at = ""
	}
	w.ahead(target)
	return nil
}

// refuse is for walks that lead only to what is there.
func (w *walk) refuse(string) error { return api.ErrNone }

// lay makes a directory at p; Put refuses what is no name or no path.
func (w *walk) lay(p string) error {
	if err := w.tree.Put(api.Entry{Path: p, Kind: api.KDir, Mode: madeMode}); err != nil {
		return err
	}
	w.made = append(w.made, p)
	return nil
}

// reserve leaves p free at the end, for whatever is to stand there; ahead of the end it is made.
func (w *walk) reserve(p string) error {
	if w.ends() {
		return path.Check(p)
	}
	return w.lay(p)
}

// undo takes away what was made, the last one first: so each is empty when its turn comes.
func (w *walk) undo() {
	for _, p := range slices.Backward(w.made) {
		w.tree.Take(p)
	}
}
