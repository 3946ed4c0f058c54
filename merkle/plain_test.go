package merkle_test

import (
	"crypto/sha256"
	"fmt"
	"slices"
	"strings"

	"strata/api"
	"strata/path"
)

// A second, slow telling of the chapter: each digest is taken anew from the tree's list, from above downwards, with the library's SHA-256.

func plainSum(width int, s string) api.Digest {
	sum := sha256.Sum256([]byte(s))
	for i := max(1, min(width, 32)); i < 32; i++ {
		sum[i] = 0
	}
	return sum
}

func plainPieces(l ...string) string {
	all := ""
	for _, s := range l {
		all += fmt.Sprintf("%d:%s", len(s), s)
	}
	return all
}

func bytesOf(d api.Digest) string { return string(d[:]) }

var plainRoot = api.Entry{Kind: api.KDir, Mode: 493}

func plainParent(p string) string {
	names := strings.Split(p, "/")
	return strings.Join(names[:len(names)-1], "/")
}

func plainLast(p string) string {
	names := strings.Split(p, "/")
	return names[len(names)-1]
}

// plainIn is what stands right in the directory p, by rising names.
func plainIn(t []api.Entry, p string) []api.Entry {
	var in []api.Entry
	for _, e := range t {
		if plainParent(e.Path) == p {
			in = append(in, e)
		}
	}
	slices.SortFunc(in, func(a, b api.Entry) int { return strings.Compare(plainLast(a.Path), plainLast(b.Path)) })
	return in
}

func plainText(width int, t []api.Entry, e api.Entry) string {
	switch e.Kind {
	case api.KFile:
		return plainPieces("file", fmt.Sprintf("%o", e.Mode), bytesOf(plainSum(width, e.Data)))
	case api.KLink:
		return plainPieces("link", e.Link)
	}
	l := []string{"dir", fmt.Sprintf("%o", e.Mode)}
	for _, in := range plainIn(t, e.Path) {
		l = append(l, plainLast(in.Path), bytesOf(plainDigest(width, t, in)))
	}
	return plainPieces(l...)
}

func plainDigest(width int, t []api.Entry, e api.Entry) api.Digest {
	return plainSum(width, plainText(width, t, e))
}

func plainTexts(width int, t []api.Entry) []string {
	var l []string
	for _, e := range t {
		if e.Kind == api.KFile {
			l = append(l, e.Data)
		}
		l = append(l, plainText(width, t, e))
	}
	return append(l, plainText(width, t, plainRoot))
}

func plainAt(t []api.Entry, p string) (api.Entry, bool) {
	for _, e := range append([]api.Entry{plainRoot}, t...) {
		if e.Path == p {
			return e, true
		}
	}
	return api.Entry{}, false
}

func plainProof(width int, t []api.Entry, p string) (api.Proof, api.Errno) {
	var x api.Proof
	if _, there := plainAt(t, p); !there {
		return x, api.ErrNone
	}
	for p != "" {
		p = plainParent(p)
		dir, _ := plainAt(t, p)
		l := api.Level{Mode: dir.Mode}
		for _, in := range plainIn(t, p) {
			l.Names = append(l.Names, plainLast(in.Path))
			l.Digests = append(l.Digests, plainDigest(width, t, in))
		}
		x.Levels = append(x.Levels, l)
	}
	return x, api.OK
}

func plainWrong(e api.Entry) api.Errno {
	if e.Kind != api.KDir && e.Kind != api.KFile && e.Kind != api.KLink {
		return api.ErrKind
	}
	if err := path.Check(e.Path); err != nil && (e.Path != "" || e.Kind != api.KDir) {
		return err.(api.Errno)
	}
	if e.Mode < 0 || e.Mode > 4095 || e.Kind == api.KLink && e.Mode != 511 {
		return api.ErrMode
	}
	if e.Kind == api.KLink && (len(e.Link) < 1 || len(e.Link) > 100 || strings.Contains(e.Link, "\x00")) {
		return api.ErrLink
	}
	if e.Kind == api.KFile && len(e.Data) > 1<<20 {
		return api.ErrMany
	}
	if e.Kind != api.KFile && len(e.Data) > 0 || e.Kind != api.KLink && len(e.Link) > 0 {
		return api.ErrForm
	}
	return api.OK
}

func plainNames(p string) []string {
	if p == "" {
		return nil
	}
	return strings.Split(p, "/")
}

func plainForm(e api.Entry, x api.Proof) api.Errno {
	if len(x.Levels) != len(plainNames(e.Path)) {
		return api.ErrForm
	}
	for _, l := range x.Levels {
		if len(l.Names) != len(l.Digests) || l.Mode < 0 || l.Mode > 4095 {
			return api.ErrForm
		}
		for i, name := range l.Names {
			if slices.Contains(l.Names[:i], name) || !slices.IsSorted(l.Names[:i+1]) {
				return api.ErrForm
			}
		}
	}
	return api.OK
}

func plainLevel(l api.Level) string {
	texts := []string{"dir", fmt.Sprintf("%o", l.Mode)}
	for i, name := range l.Names {
		texts = append(texts, name, bytesOf(l.Digests[i]))
	}
	return plainPieces(texts...)
}

// plainVerify is what Verify answers.
func plainVerify(width int, root api.Digest, e api.Entry, below api.Digest, x api.Proof) api.Errno {
	if no := plainWrong(e); no != api.OK {
		return no
	}
	if no := plainForm(e, x); no != api.OK {
		return no
	}
	d := below
	if e.Kind != api.KDir {
		d = plainDigest(width, nil, e)
	}
	left := plainNames(e.Path)
	for _, l := range x.Levels {
		at := slices.Index(l.Names, left[len(left)-1])
		left = left[:len(left)-1]
		if at < 0 {
			return api.ErrNone
		}
		if l.Digests[at] != d {
			return api.ErrSum
		}
		d = plainSum(width, plainLevel(l))
	}
	if d != root {
		return api.ErrSum
	}
	return api.OK
}

// plainTaken is the texts that Verify takes the digests of.
func plainTaken(width int, e api.Entry, x api.Proof) []string {
	var l []string
	if e.Kind == api.KFile {
		l = append(l, e.Data)
	}
	if e.Kind != api.KDir {
		l = append(l, plainText(width, nil, e))
	}
	for _, level := range x.Levels {
		l = append(l, plainLevel(level))
	}
	return l
}
