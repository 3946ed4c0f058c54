package tree_test

import (
	"slices"
	"strings"

	"strata/api"
	"strata/path"
)

// A second, slow telling of the chapter: a tree is a list in order, in which all is sought from its beginning on.

func plainWrong(e api.Entry) api.Errno {
	if e.Kind != api.KDir && e.Kind != api.KFile && e.Kind != api.KLink {
		return api.ErrKind
	}
	if err := path.Check(e.Path); err != nil {
		return err.(api.Errno)
	}
	if e.Mode < 0 || e.Mode > 4095 {
		return api.ErrMode
	}
	if e.Kind == api.KLink {
		if e.Mode != 511 {
			return api.ErrMode
		}
		if len(e.Link) < 1 || len(e.Link) > 100 || strings.Contains(e.Link, "\x00") {
			return api.ErrLink
		}
	}
	if e.Kind == api.KFile && len(e.Data) > 1<<20 {
		return api.ErrMany
	}
	if e.Kind != api.KFile && len(e.Data) > 0 {
		return api.ErrForm
	}
	if e.Kind != api.KLink && len(e.Link) > 0 {
		return api.ErrForm
	}
	return api.OK
}

// plainOrder holds two paths against each other name by name.
func plainOrder(a, b string) int {
	return slices.Compare(strings.Split(a, "/"), strings.Split(b, "/"))
}

func plainFind(l []api.Entry, p string) int {
	return slices.IndexFunc(l, func(e api.Entry) bool { return e.Path == p })
}

// plainParent is what speaks against an entry below the parent of p.
func plainParent(l []api.Entry, p string) api.Errno {
	slash := strings.LastIndex(p, "/")
	if slash < 0 {
		return api.OK
	}
	at := plainFind(l, p[:slash])
	if at < 0 {
		return api.ErrNone
	}
	if l[at].Kind != api.KDir {
		return api.ErrDir
	}
	return api.OK
}

func plainBytes(l []api.Entry) int {
	sum := 0
	for _, e := range l {
		sum += len(e.Data)
	}
	return sum
}

// plainCheck is Check's number and the place.
func plainCheck(l []api.Entry) (api.Errno, int) {
	for i, e := range l {
		if no := plainWrong(e); no != api.OK {
			return no, i
		}
		if i > 0 && l[i-1].Path == e.Path {
			return api.ErrTwice, i
		}
		if i > 0 && plainOrder(e.Path, l[i-1].Path) < 0 {
			return api.ErrArg, i
		}
		if no := plainParent(l[:i], e.Path); no != api.OK {
			return no, i
		}
		if i >= 4096 || plainBytes(l[:i+1]) > 1<<24 {
			return api.ErrMany, i
		}
	}
	return api.OK, 0
}

// plainBelow are the entries of which the path begins with p and a slash.
func plainBelow(l []api.Entry, p string) []api.Entry {
	var below []api.Entry
	for _, e := range l {
		if p == "" || strings.HasPrefix(e.Path, p+"/") {
			below = append(below, e)
		}
	}
	return below
}

func plainSub(l []api.Entry, p string) ([]api.Entry, api.Errno) {
	if p == "" {
		return slices.Clone(l), api.OK
	}
	at := plainFind(l, p)
	if at < 0 {
		return nil, api.ErrNone
	}
	if l[at].Kind != api.KDir {
		return nil, api.ErrDir
	}
	sub := plainBelow(l, p)
	for i := range sub {
		sub[i].Path = strings.TrimPrefix(sub[i].Path, p+"/")
	}
	return sub, api.OK
}

// plainPut is the list behind a Put, and its number.
func plainPut(l []api.Entry, e api.Entry) ([]api.Entry, api.Errno) {
	if no := plainWrong(e); no != api.OK {
		return l, no
	}
	if no := plainParent(l, e.Path); no != api.OK {
		return l, no
	}
	next := slices.Clone(l)
	if at := plainFind(l, e.Path); at >= 0 {
		if (l[at].Kind == api.KDir) != (e.Kind == api.KDir) {
			return l, api.ErrKind
		}
		next[at] = e
	} else {
		next = append(next, e)
		slices.SortFunc(next, func(a, b api.Entry) int { return plainOrder(a.Path, b.Path) })
	}
	if len(next) > 4096 || plainBytes(next) > 1<<24 {
		return l, api.ErrMany
	}
	return next, api.OK
}

// plainTake is the list behind a Take, how many are gone, and its number.
func plainTake(l []api.Entry, p string) ([]api.Entry, int, api.Errno) {
	if p == "" {
		return l, 0, api.ErrRoot
	}
	if plainFind(l, p) < 0 {
		return l, 0, api.ErrNone
	}
	var next []api.Entry
	for _, e := range l {
		if e.Path != p && !strings.HasPrefix(e.Path, p+"/") {
			next = append(next, e)
		}
	}
	return next, len(l) - len(next), api.OK
}
