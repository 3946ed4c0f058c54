package delta_test

import (
	"slices"
	"strings"

	"strata/api"
	"strata/path"
)

// A second, slow telling of the chapter: of each path the words are asked anew, of lists that are sought through from their beginning on.

func plainAt(l []api.Entry, p string) (api.Entry, bool) {
	for _, e := range l {
		if e.Path == p {
			return e, true
		}
	}
	return api.Entry{}, false
}

// plainOrder holds two paths against each other name by name.
func plainOrder(a, b string) int {
	return slices.Compare(strings.Split(a, "/"), strings.Split(b, "/"))
}

// plainLeaves tells whether a has something at p, and b nothing there, or an entry of another sort.
func plainLeaves(a, b []api.Entry, p string) bool {
	x, there := plainAt(a, p)
	y, stays := plainAt(b, p)
	return there && (!stays || (x.Kind == api.KDir) != (y.Kind == api.KDir))
}

// plainGone tells whether p leaves, and no path above it does.
func plainGone(a, b []api.Entry, p string) bool {
	for i, c := range p {
		if c == '/' && plainLeaves(a, b, p[:i]) {
			return false
		}
	}
	return plainLeaves(a, b, p)
}

func plainDiff(a, b []api.Entry) []api.Change {
	var paths []string
	for _, e := range slices.Concat(a, b) {
		paths = append(paths, e.Path)
	}
	slices.SortFunc(paths, plainOrder)
	var l []api.Change
	for _, p := range slices.Compact(paths) {
		if plainGone(a, b, p) {
			l = append(l, api.Change{Path: p, Gone: true})
		}
		x, was := plainAt(a, p)
		if y, is := plainAt(b, p); is && (!was || x != y) {
			l = append(l, api.Change{Path: p, Entry: y})
		}
	}
	return l
}

func plainWrong(e api.Entry) api.Errno {
	if e.Kind != api.KDir && e.Kind != api.KFile && e.Kind != api.KLink {
		return api.ErrKind
	}
	if err := path.Check(e.Path); err != nil {
		return err.(api.Errno)
	}
	if e.Mode < 0 || e.Mode > 4095 || e.Kind == api.KLink && e.Mode != 511 {
		return api.ErrMode
	}
	if e.Kind == api.KLink && (len(e.Link) < 1 || len(e.Link) > 100 || strings.Contains(e.Link, "\x00")) {
		return api.ErrLink
	}
	if e.Kind == api.KFile && len(e.Data) > 1<<20 {
		return api.ErrMany
	}
	if e.Kind != api.KFile && len(e.Data) > 0 || e.Kind != api.KLink && len(e.Link) > 0 {
		return api.ErrForm
	}
	return api.OK
}

// plainDo is the list behind one change, and its number.
func plainDo(l []api.Entry, c api.Change) ([]api.Entry, api.Errno) {
	if c.Gone {
		if c.Path == "" {
			return l, api.ErrRoot
		}
		if _, there := plainAt(l, c.Path); !there {
			return l, api.ErrNone
		}
		return slices.DeleteFunc(slices.Clone(l), func(e api.Entry) bool {
			return e.Path == c.Path || strings.HasPrefix(e.Path, c.Path+"/")
		}), api.OK
	}
	if c.Entry.Path != c.Path {
		return l, api.ErrArg
	}
	if no := plainWrong(c.Entry); no != api.OK {
		return l, no
	}
	if slash := strings.LastIndex(c.Path, "/"); slash >= 0 {
		parent, there := plainAt(l, c.Path[:slash])
		if !there {
			return l, api.ErrNone
		}
		if parent.Kind != api.KDir {
			return l, api.ErrDir
		}
	}
	old, there := plainAt(l, c.Path)
	if there && (old.Kind == api.KDir) != (c.Entry.Kind == api.KDir) {
		return l, api.ErrKind
	}
	next := slices.DeleteFunc(slices.Clone(l), func(e api.Entry) bool { return e.Path == c.Path })
	next = append(next, c.Entry)
	slices.SortFunc(next, func(a, b api.Entry) int { return plainOrder(a.Path, b.Path) })
	return next, api.OK
}

// plainApply is the list behind all changes; or a number, and the change that it is told of.
func plainApply(t []api.Entry, l []api.Change) ([]api.Entry, api.Errno, int) {
	for i, c := range l {
		var no api.Errno
		if t, no = plainDo(t, c); no != api.OK {
			return nil, no, i
		}
	}
	bytes := 0
	for _, e := range t {
		bytes += len(e.Data)
	}
	if len(t) > 4096 || bytes > 1<<24 {
		return nil, api.ErrMany, len(l)
	}
	return t, api.OK, 0
}
