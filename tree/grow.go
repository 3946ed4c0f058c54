package tree

import (
	"errors"
	"strings"

	"strata/api"
	"strata/path"
)

// linkMode is the mode of every link.
const linkMode = 511

// wrong is what is wrong with an entry by itself.
func wrong(e api.Entry) error {
	if e.Kind != api.KDir && e.Kind != api.KFile && e.Kind != api.KLink {
		return api.ErrKind
	}
	if err := path.Check(e.Path); err != nil {
		return err
	}
	if e.Mode < 0 || e.Mode > api.MaxMode || e.Kind == api.KLink && e.Mode != linkMode {
		return api.ErrMode
	}
	if e.Kind == api.KLink && !target(e.Link) {
		return api.ErrLink
	}
	if e.Kind == api.KFile && len(e.Data) > api.MaxFile {
		return api.ErrMany
	}
	if e.Kind != api.KFile && e.Data != "" || e.Kind != api.KLink && e.Link != "" {
		return api.ErrForm
	}
	return nil
}

// target tells whether a link may lead to a text.
func target(s string) bool {
	return s != "" && len(s) <= api.MaxTarget && strings.IndexByte(s, 0) < 0
}

// grow is the tree of entries that come in order, or what is wrong with the first one that may not stand where it does.
func grow(l []api.Entry) (*Tree, error) {
	t := New()
	before := ""
	for i, e := range l {
		err := wrong(e)
		if err == nil {
			err = outOfOrder(before, e.Path)
		}
		if err == nil {
			err = t.lay(e)
		}
		if err != nil {
			return nil, placed(err, i)
		}
		before = e.Path
	}
	return t, nil
}

// outOfOrder is what is wrong with a path behind the one before it; every path stands behind the root.
func outOfOrder(before, p string) error {
	switch order := path.Compare(before, p); {
	case order == 0:
		return api.ErrTwice
	case order > 0:
		return api.ErrArg
	}
	return nil
}

func placed(err error, at int) error {
	var no api.Errno
	errors.As(err, &no)
	return api.Fault{No: no, At: at}
}

// at is what stands at a path, the root at the empty one; nil, if nothing does.
func (t *Tree) at(p string) *node {
	here := t.root
	if p == "" {
		return here
	}
	// Empty pieces count: no name is empty, so nothing stands at a text with one.
	for rest, more := p, true; more && here != nil; {
		var name string
		name, rest, more = strings.Cut(rest, "/")
		here = here.children[name]
	}
	return here
}

// lay puts an entry that is right by itself at its path, unless what is there speaks against it.
func (t *Tree) lay(e api.Entry) error {
	parent := t.at(path.Parent(e.Path))
	if parent == nil {
		return api.ErrNone
	}
	if parent.entry.Kind != api.KDir {
		return api.ErrDir
	}
	entries, bytes := t.entries, t.bytes+int64(len(e.Data))
	old := parent.children[path.Last(e.Path)]
	if old == nil {
		entries++
	} else {
		if (old.entry.Kind == api.KDir) != (e.Kind == api.KDir) {
			return api.ErrKind
		}
		bytes -= int64(len(old.entry.Data))
	}
	if entries > api.MaxEntries || bytes > api.MaxTree {
		return api.ErrMany
	}
	t.entries, t.bytes = entries, bytes
	if old == nil {
		parent.children[path.Last(e.Path)] = newNode(e)
	} else {
		old.entry = e
	}
	return nil
}
