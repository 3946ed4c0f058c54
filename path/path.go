// Package path is layer 1: see shared/doc/01-path.md.
package path

import (
	"iter"
	"strings"

	"strata/api"
)

// What a header of an archive has room for.
const (
	headerName   = 100
	headerPrefix = 155
)

// hidden stands ahead of the last name of a whiteout, so no name may begin with it.
const hidden = ".wh."

// Name tells whether a text may be a name.
func Name(s string) error {
	if s == "" || len(s) > api.MaxName || strings.ContainsAny(s, "\x00/") {
		return api.ErrName
	}
	if s == "." || s == ".." || strings.HasPrefix(s, hidden) {
		return api.ErrName
	}
	return nil
}

// Check tells whether a text may be a path.
func Check(p string) error {
	if p == "" {
		return api.ErrRoot
	}
	depth := 0
	for piece := range everyPiece(p) {
		if err := Name(piece); err != nil {
			return err
		}
		depth++
	}
	// All names are looked at first: ErrName goes ahead of ErrPath.
	if depth > api.MaxDepth || len(p) > api.MaxPath {
		return api.ErrPath
	}
	_, _, err := Split(whiteout(p))
	return err
}

// whiteout is what a layer writes to say that the path is gone.
func whiteout(p string) string {
	return Join(Parent(p), hidden+Last(p))
}

// Split is a path as a header says it: prefix and name.
func Split(p string) (string, string, error) {
	if len(p) <= headerName {
		return "", p, nil
	}
	// Slashes ahead of this place leave too much behind them for a name.
	first := len(p) - headerName - 1
	skipped := strings.IndexByte(p[first:], '/')
	if skipped < 0 {
		return "", "", api.ErrPath
	}
	slash := first + skipped
	prefix, name := p[:slash], p[slash+1:]
	if name == "" || prefix == "" || len(prefix) > headerPrefix {
		return "", "", api.ErrPath
	}
	return prefix, name, nil
}

// Parent is the path without its last name.
func Parent(p string) string {
	slash := strings.LastIndexByte(p, '/')
	if slash < 0 {
		return ""
	}
	return p[:slash]
}

// Last is its last name.
func Last(p string) string {
	return p[strings.LastIndexByte(p, '/')+1:]
}

// Join puts a name behind a directory's path.
func Join(dir, name string) string {
	if dir == "" {
		return name
	}
	return dir + "/" + name
}

// Clean is a text without empty pieces, "." and "..".
func Clean(s string) string {
	var kept []string
	for piece := range Pieces(s) {
		switch {
		case piece == ".":
		case piece != "..":
			kept = append(kept, piece)
		case len(kept) > 0:
			kept = kept[:len(kept)-1]
		}
	}
	return strings.Join(kept, "/")
}

// Compare holds two paths against each other by their order.
func Compare(a, b string) int {
	rest, more := b, true
	for piece := range everyPiece(a) {
		if !more {
			return 1
		}
		var other string
		other, rest, more = strings.Cut(rest, "/")
		if order := strings.Compare(piece, other); order != 0 {
			return order
		}
	}
	if more {
		return -1
	}
	return 0
}

// Below tells whether a path lies below another.
func Below(dir, p string) bool {
	if dir == "" {
		return p != ""
	}
	rest, found := strings.CutPrefix(p, dir)
	return found && strings.HasPrefix(rest, "/")
}

// Pieces are a text's pieces between its slashes, the empty ones left out.
func Pieces(s string) iter.Seq[string] {
	return func(yield func(string) bool) {
		for piece := range everyPiece(s) {
			if piece != "" && !yield(piece) {
				return
			}
		}
	}
}

// everyPiece is as Pieces, with the empty ones: names and the order of paths hang on them too.
func everyPiece(s string) iter.Seq[string] {
	return func(yield func(string) bool) {
		// s itself stays as it is, so that each range begins anew.
		rest, more := s, true
		for more {
			var piece string
			piece, rest, more = strings.Cut(rest, "/")
			if !yield(piece) {
				return
			}
		}
	}
}
