package layer_test

import (
	"slices"
	"strings"

	"strata/api"
	"strata/archive"
	"strata/path"
)

// A second, slow telling of the chapter, over lists that are sought through from their beginning on.

// place is the number of an error, and what its Fault tells.
type place struct {
	no       api.Errno
	line, at int
}

func plainWrong(e api.Entry) api.Errno {
	if e.Kind != api.KDir && e.Kind != api.KFile && e.Kind != api.KLink {
		return api.ErrKind
	}
	if err := path.Check(e.Path); err != nil {
		return err.(api.Errno)
	}
	if e.Mode < 0 || e.Mode > 4095 || e.Kind == api.KLink && e.Mode != 511 {
		return api.ErrMode
	}
	if e.Kind == api.KLink && (len(e.Link) < 1 || len(e.Link) > 100 || strings.Contains(e.Link, "\x00")) {
		return api.ErrLink
	}
	if e.Kind == api.KFile && len(e.Data) > 1<<20 {
		return api.ErrMany
	}
	if e.Kind != api.KFile && len(e.Data) > 0 || e.Kind != api.KLink && len(e.Link) > 0 {
		return api.ErrForm
	}
	return api.OK
}

// plainMember is the member of a change, or its number.
func plainMember(c api.Change) (api.Member, api.Errno) {
	if c.Gone {
		if err := path.Check(c.Path); err != nil {
			return api.Member{}, err.(api.Errno)
		}
		slash := strings.LastIndex(c.Path, "/") + 1
		return api.Member{Header: api.Header{Path: c.Path[:slash] + ".wh." + c.Path[slash:], Type: '0'}}, api.OK
	}
	e := c.Entry
	if e.Path != c.Path {
		return api.Member{}, api.ErrArg
	}
	if no := plainWrong(e); no != api.OK {
		return api.Member{}, no
	}
	h := api.Header{Path: e.Path, Mode: int64(e.Mode), Size: int64(len(e.Data)), Link: e.Link}
	h.Type = map[api.Kind]byte{api.KDir: '5', api.KFile: '0', api.KLink: '2'}[e.Kind]
	return api.Member{Header: h, Data: e.Data}, api.OK
}

// plainWrite counts by itself how long an archive is.
func plainWrite(l []api.Change) (string, place) {
	var members []api.Member
	bytes := 1024
	for i, c := range l {
		m, no := plainMember(c)
		if no != api.OK {
			return "", place{no, 0, i}
		}
		bytes += 512 + (len(m.Data)+511)/512*512
		if bytes > 1<<25 {
			return "", place{api.ErrMany, 0, i}
		}
		members = append(members, m)
	}
	s, err := archive.Write(members)
	if err != nil {
		panic(err)
	}
	return s, place{}
}

// plainTell is what a member tells of its layer: a path that is gone, a directory that is marked, or an entry.
func plainTell(m api.Member) (api.Foreign, api.Errno) {
	h := m.Header
	if !strings.Contains("0\x0052", string([]byte{h.Type})) {
		return api.Foreign{}, api.ErrKind
	}
	p := path.Clean(h.Path)
	if p == "" {
		return api.Foreign{}, api.OK
	}
	slash := strings.LastIndex(p, "/")
	parent, last := p[:max(slash, 0)], p[slash+1:]
	if last == ".wh..wh..opq" {
		if err := path.Check(parent); err != nil && parent != "" {
			return api.Foreign{}, err.(api.Errno)
		}
		return api.Foreign{Opaque: []string{parent}}, api.OK
	}
	if len(last) >= 4 && last[:4] == ".wh." {
		if path.Name(last[4:]) != nil {
			return api.Foreign{}, api.ErrName
		}
		gone := p[:slash+1] + last[4:]
		if err := path.Check(gone); err != nil {
			return api.Foreign{}, err.(api.Errno)
		}
		return api.Foreign{Gone: []string{gone}}, api.OK
	}
	e := api.Entry{Path: p, Kind: api.KFile, Mode: int(h.Mode) & 07777, Data: m.Data}
	if h.Type == '5' || h.Type != '2' && h.Path[len(h.Path)-1] == '/' {
		e.Kind = api.KDir
	}
	if h.Type == '2' {
		e.Kind, e.Mode, e.Link = api.KLink, 511, h.Link
	}
	if no := plainWrong(e); no != api.OK {
		return api.Foreign{}, no
	}
	return api.Foreign{Puts: []api.Entry{e}}, api.OK
}

// plainRead is told of members, not of the archive that they stand in.
func plainRead(l []api.Member) (api.Foreign, place) {
	var all api.Foreign
	for i, m := range l {
		f, no := plainTell(m)
		if no != api.OK {
			return api.Foreign{}, place{no, 1, i}
		}
		all.Gone = append(all.Gone, f.Gone...)
		all.Opaque = append(all.Opaque, f.Opaque...)
		all.Puts = append(all.Puts, f.Puts...)
	}
	return all, place{}
}

func plainAt(l []api.Entry, p string) (api.Entry, bool) {
	for _, e := range l {
		if e.Path == p {
			return e, true
		}
	}
	return api.Entry{}, false
}

// without is a list without a path, and without all below it.
func without(l []api.Entry, p string) []api.Entry {
	return slices.DeleteFunc(slices.Clone(l), func(e api.Entry) bool {
		return e.Path == p || strings.HasPrefix(e.Path, p+"/")
	})
}

// plainSet puts an entry in the place of what there was; what lies below it stays.
func plainSet(l []api.Entry, e api.Entry) []api.Entry {
	l = slices.DeleteFunc(slices.Clone(l), func(old api.Entry) bool { return old.Path == e.Path })
	return append(l, e)
}

func plainLay(l []api.Entry, e api.Entry) []api.Entry {
	for i := range len(e.Path) {
		if e.Path[i] != '/' {
			continue
		}
		if old, there := plainAt(l, e.Path[:i]); !there || old.Kind != api.KDir {
			l = plainSet(l, api.Entry{Path: e.Path[:i], Kind: api.KDir, Mode: 493})
		}
	}
	if old, there := plainAt(l, e.Path); there && (old.Kind == api.KDir) != (e.Kind == api.KDir) {
		l = without(l, e.Path)
	}
	return plainSet(l, e)
}

// plainApply is the tree behind a layer that can be read; false, if it is too much for one.
func plainApply(t []api.Entry, f api.Foreign) ([]api.Entry, bool) {
	l := slices.Clone(t)
	for _, p := range f.Gone {
		l = without(l, p)
	}
	for _, p := range f.Opaque {
		l = slices.DeleteFunc(l, func(e api.Entry) bool { return p == "" || strings.HasPrefix(e.Path, p+"/") })
	}
	for _, e := range f.Puts {
		l = plainLay(l, e)
	}
	bytes := 0
	for _, e := range l {
		bytes += len(e.Data)
	}
	if len(l) > 4096 || bytes > 1<<24 {
		return nil, false
	}
	slices.SortFunc(l, func(a, b api.Entry) int {
		return slices.Compare(strings.Split(a.Path, "/"), strings.Split(b.Path, "/"))
	})
	return l, true
}
