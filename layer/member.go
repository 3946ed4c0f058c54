package layer

import (
	"strings"

	"strata/api"
	"strata/path"
	"strata/ustar"
)

const (
	// hides stands ahead of the last name of a whiteout.
	hides = ".wh."
	// opaque is the last name of a mark.
	opaque = ".wh..wh..opq"
	// linkMode is the mode of every link.
	linkMode = 511
)

// membersOf are the members of changes, up to the first one that is wrong, and what is wrong with that.
func membersOf(l []api.Change) ([]api.Member, error) {
	var members []api.Member
	for i, c := range l {
		m, err := memberOf(c)
		if err != nil {
			return members, placed(err, ofChanges, i)
		}
		members = append(members, m)
	}
	return members, nil
}

func memberOf(c api.Change) (api.Member, error) {
	if c.Gone {
		if err := path.Check(c.Path); err != nil {
			return api.Member{}, err
		}
		whiteout := path.Join(path.Parent(c.Path), hides+path.Last(c.Path))
		return api.Member{Header: api.Header{Path: whiteout, Type: '0'}}, nil
	}
	if c.Path != c.Entry.Path {
		return api.Member{}, api.ErrArg
	}
	if err := wrong(c.Entry); err != nil {
		return api.Member{}, err
	}
	return api.Member{Header: ustar.Of(c.Entry), Data: c.Entry.Data}, nil
}

// tell puts what a member is behind what is known of its layer.
func tell(f *api.Foreign, m api.Member) error {
	kind := kindOf(m.Header)
	if kind == api.KNone {
		return api.ErrKind
	}
	p := path.Clean(m.Header.Path)
	switch last := path.Last(p); {
	case p == "": // the root, which is no entry
		return nil
	case last == opaque:
		return tellMark(f, path.Parent(p))
	case strings.HasPrefix(last, hides):
		return tellWhiteout(f, path.Parent(p), last[len(hides):])
	}
	return tellEntry(f, m, p, kind)
}

func tellMark(f *api.Foreign, dir string) error {
	if dir != "" {
		if err := path.Check(dir); err != nil {
			return err
		}
	}
	f.Opaque = append(f.Opaque, dir)
	return nil
}

func tellWhiteout(f *api.Foreign, dir, name string) error {
	// An empty name would be told as the root by path.Check.
	if err := path.Name(name); err != nil {
		return err
	}
	gone := path.Join(dir, name)
	if err := path.Check(gone); err != nil {
		return err
	}
	f.Gone = append(f.Gone, gone)
	return nil
}

func tellEntry(f *api.Foreign, m api.Member, p string, kind api.Kind) error {
	e := api.Entry{Path: p, Kind: kind, Mode: int(m.Header.Mode % (api.MaxMode + 1)), Data: m.Data}
	if kind == api.KLink {
		e.Mode, e.Link = linkMode, m.Header.Link
	}
	if err := wrong(e); err != nil {
		return err
	}
	f.Puts = append(f.Puts, e)
	return nil
}

// kindOf is the kind that a header speaks of; KNone, if no layer has the like.
func kindOf(h api.Header) api.Kind {
	switch h.Type {
	case '0', 0:
		// Writers from before there was a type for directories tell them so.
		if strings.HasSuffix(h.Path, "/") {
			return api.KDir
		}
		return api.KFile
	case '2':
		return api.KLink
	case '5':
		return api.KDir
	}
	return api.KNone
}
