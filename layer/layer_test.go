package layer_test

import (
	"archive/tar"
	"bytes"
	"errors"
	"fmt"
	"io"
	"math"
	"math/rand"
	"slices"
	"strings"
	"testing"

	"strata/api"
	"strata/archive"
	"strata/delta"
	"strata/layer"
	"strata/path"
	"strata/tree"
)

func run(s string, n int) string { return strings.Repeat(s, n) }

func dir(p string) api.Entry { return dirOf(p, 493) }

func dirOf(p string, mode int) api.Entry { return api.Entry{Path: p, Kind: api.KDir, Mode: mode} }

func file(p, data string) api.Entry {
	return api.Entry{Path: p, Kind: api.KFile, Mode: 420, Data: data}
}

func link(p, to string) api.Entry {
	return api.Entry{Path: p, Kind: api.KLink, Mode: 511, Link: to}
}

func list(l ...api.Entry) []api.Entry { return l }

func gone(p string) api.Change { return api.Change{Path: p, Gone: true} }

func laid(e api.Entry) api.Change { return api.Change{Path: e.Path, Entry: e} }

func changes(l ...api.Change) []api.Change { return l }

// member is of any type.
func member(kind byte, p, data, to string) api.Member {
	return api.Member{Header: api.Header{Path: p, Mode: 420, Size: int64(len(data)), Type: kind, Link: to}, Data: data}
}

// plain is a file's member.
func plain(p, data string) api.Member { return member('0', p, data, "") }

// folder is a directory's member, with a mode.
func folder(p string, mode int64) api.Member {
	m := member('5', p, "", "")
	m.Header.Mode = mode
	return m
}

func members(l ...api.Member) []api.Member { return l }

// many are n files, in order.
func many(n int) []api.Entry {
	var l []api.Entry
	for i := range n {
		l = append(l, file(fmt.Sprintf("f%05d", i), ""))
	}
	return l
}

// heavy are 16 files, which are all that a tree may weigh.
func heavy() []api.Entry {
	var l []api.Entry
	for i := range 16 {
		l = append(l, file(string(rune('a'+i)), run("x", api.MaxFile)))
	}
	return l
}

// short is any value as a text that is not too long.
func short(v any) string { return fmt.Sprintf("%.600q", fmt.Sprint(v)) }

func archiveOf(t *testing.T, l ...api.Member) string {
	t.Helper()
	s, err := archive.Write(l)
	if err != nil {
		t.Fatalf("the members %s are refused: %v", short(l), err)
	}
	return s
}

// refused fails unless err is just the number, and tells just that place.
func refused(t *testing.T, call string, err error, want place) {
	t.Helper()
	for other := api.ErrArg; other <= api.ErrEmpty; other++ {
		if errors.Is(err, other) != (other == want.no) {
			t.Fatalf("%s: the error is %v, not %v", call, err, want.no)
		}
	}
	var fault api.Fault
	if !errors.As(err, &fault) || fault != (api.Fault{No: want.no, Line: want.line, At: want.at}) {
		t.Fatalf("%s: the error tells %+v, not %v at %d:%d", call, fault, want.no, want.line, want.at)
	}
}

// writes fails unless Write of the changes is the archive of the members.
func writes(t *testing.T, l []api.Change, want ...api.Member) {
	t.Helper()
	s, err := layer.Write(l)
	if err != nil || s != archiveOf(t, want...) {
		got, _ := archive.Read(s)
		t.Fatalf("Write of %s is %s, %v; not %s", short(l), short(got), err, short(want))
	}
}

// stays fails unless Write refuses the changes.
func stays(t *testing.T, l []api.Change, no api.Errno, at int) {
	t.Helper()
	s, err := layer.Write(l)
	refused(t, fmt.Sprint("Write of ", len(l), " changes, ", short(l[:min(len(l), 5)])), err, place{no, 0, at})
	if s != "" {
		t.Fatalf("beside an error: %.100q", s)
	}
}

func sameForeign(a, b api.Foreign) bool {
	return slices.Equal(a.Gone, b.Gone) && slices.Equal(a.Opaque, b.Opaque) && slices.Equal(a.Puts, b.Puts)
}

// reads fails unless Read of s is want.
func reads(t *testing.T, s string, want api.Foreign) {
	t.Helper()
	f, err := layer.Read(s)
	if err != nil || !sameForeign(f, want) {
		t.Fatalf("Read is %s, %v; not %s", short(f), err, short(want))
	}
}

// stops fails unless Read, and Apply to anything, refuses s.
func stops(t *testing.T, s string, want place) {
	t.Helper()
	f, err := layer.Read(s)
	refused(t, "Read", err, want)
	if !sameForeign(f, api.Foreign{}) {
		t.Fatalf("beside an error: %s", short(f))
	}
	for _, l := range [][]api.Entry{nil, list(dir("a"), file("a/b", "x")), list(dir("a"), dir("a"))} {
		got, err := layer.Apply(l, s)
		refused(t, "Apply", err, want)
		if len(got) != 0 {
			t.Fatalf("beside an error: %s", short(got))
		}
	}
}

// stopsAt fails unless Read refuses a member, wherever it stands.
func stopsAt(t *testing.T, m api.Member, no api.Errno) {
	t.Helper()
	stops(t, archiveOf(t, m), place{no, 1, 0})
	stops(t, archiveOf(t, plain("q", ""), plain(".wh.q", ""), plain("./", ""), m, member('1', "later", "", "")), place{no, 1, 3})
}

// makes fails unless Apply of the members to a is want.
func makes(t *testing.T, a []api.Entry, l []api.Member, want ...api.Entry) {
	t.Helper()
	got, err := layer.Apply(a, archiveOf(t, l...))
	if err != nil || !slices.Equal(got, want) {
		t.Fatalf("Apply of %s to %s is %s, %v; not %s", short(l), short(a), short(got), err, short(want))
	}
}

// tooMuch fails unless Apply tells that there is too much, and no place.
func tooMuch(t *testing.T, a []api.Entry, l []api.Member) {
	t.Helper()
	got, err := layer.Apply(a, archiveOf(t, l...))
	var fault api.Fault
	if !errors.Is(err, api.ErrMany) || errors.As(err, &fault) || len(got) != 0 {
		t.Fatalf("Apply of %d members to %d entries is %d entries, %v", len(l), len(a), len(got), err)
	}
}

// The chapter's table of examples.
func TestExamples(t *testing.T) {
	first := changes(gone("a/b"), laid(file("c", "x")))
	writes(t, first, api.Member{Header: api.Header{Path: "a/.wh.b", Type: '0'}}, api.Member{Header: api.Header{Path: "c", Mode: 420, Size: 1, Type: '0'}, Data: "x"})
	stays(t, changes(gone("")), api.ErrRoot, 0)
	stays(t, changes(gone("../a")), api.ErrName, 0)
	stays(t, changes(api.Change{Path: "d", Entry: file("c", "x")}), api.ErrArg, 0)
	stays(t, changes(gone("a"), laid(link("c", ""))), api.ErrLink, 1)

	s, err := layer.Write(first)
	if err != nil {
		t.Fatal(err)
	}
	reads(t, s, api.Foreign{Gone: []string{"a/b"}, Puts: list(file("c", "x"))})
	reads(t, archiveOf(t, plain("./a/.wh..wh..opq", ""), plain(".wh..wh..opq", ""), folder("./", 448), plain("d/", "")),
		api.Foreign{Opaque: []string{"a", ""}, Puts: list(dirOf("d", 420))})
	stopsAt(t, plain(".wh.", ""), api.ErrName)
	stopsAt(t, plain(".wh..wh.x", ""), api.ErrName)
	stopsAt(t, plain(".wh.a/b", ""), api.ErrName)
	stopsAt(t, member('1', "a", "", ""), api.ErrKind)
	stopsAt(t, member('5', "a", "x", ""), api.ErrForm)

	abc := list(dir("a"), file("a/b", "x"), file("c", "y"))
	makes(t, abc, members(plain(".wh.a", "")), file("c", "y"))
	makes(t, abc, members(plain("a/d", "z"), plain(".wh.a", "")), dir("a"), file("a/d", "z"), file("c", "y"))
	makes(t, abc, members(plain("a/.wh..wh..opq", ""), folder("a", 448)), dirOf("a", 448), file("c", "y"))
	makes(t, abc, members(plain("c/d/e", "z")), dir("a"), file("a/b", "x"), dir("c"), dir("c/d"), file("c/d/e", "z"))
	makes(t, abc, members(plain("a", "z")), file("a", "z"), file("c", "y"))
	makes(t, list(dir("a"), dir("b")), members(plain(".wh.x", "")), dir("a"), dir("b"))
	twice := list(dir("a"), dir("a"))
	for _, l := range [][]api.Member{nil, members(plain("z", "z")), members(plain(".wh.a", "")), members(plain(".wh..wh..opq", ""))} {
		got, err := layer.Apply(twice, archiveOf(t, l...))
		refused(t, "a twice", err, place{api.ErrTwice, 2, 1})
		if len(got) != 0 {
			t.Errorf("beside an error: %v", got)
		}
	}
	_, err = layer.Apply(twice, "x")
	refused(t, "x", err, place{api.ErrShort, 0, 0})
}

// P12.1

func TestWriteOfEachKind(t *testing.T) {
	writes(t, nil)
	writes(t, changes())
	for _, mode := range []int{0, 1, 420, 493, 511, 4095} {
		writes(t, changes(laid(dirOf("a/b", mode)), laid(api.Entry{Path: "c", Kind: api.KFile, Mode: mode, Data: run("x", 700)})),
			api.Member{Header: api.Header{Path: "a/b", Mode: int64(mode), Type: '5'}},
			api.Member{Header: api.Header{Path: "c", Mode: int64(mode), Size: 700, Type: '0'}, Data: run("x", 700)})
	}
	writes(t, changes(laid(link("a/l", "/t"))), api.Member{Header: api.Header{Path: "a/l", Mode: 511, Type: '2', Link: "/t"}})
	writes(t, changes(laid(file("e", ""))), api.Member{Header: api.Header{Path: "e", Mode: 420, Type: '0'}})
	for p, whiteout := range map[string]string{"a": ".wh.a", "a/b": "a/.wh.b", "...": ".wh....", "a/b/.wh": "a/b/.wh..wh", "\xff/ ": "\xff/.wh. "} {
		writes(t, changes(gone(p)), api.Member{Header: api.Header{Path: whiteout, Type: '0'}})
	}
}

// The longest paths there are have whiteouts that a header can say.
func TestWriteOfLongPaths(t *testing.T) {
	for _, p := range []string{run("n", 96), run("n", 96) + "/" + run("m", 96), run("a/", 31) + "a", "a/" + run("b", 96), run("a", 94) + "/" + run("b", 60) + "/" + run("c", 38)} {
		if err := path.Check(p); err != nil {
			t.Fatal(p, err)
		}
		s, err := layer.Write(changes(gone(p), laid(dir(p)), laid(file(p, "x")), laid(link(p, run("t", 100)))))
		if err != nil {
			t.Fatal(p, err)
		}
		reads(t, s, api.Foreign{Gone: []string{p}, Puts: list(dir(p), file(p, "x"), link(p, run("t", 100)))})
	}
	stays(t, changes(gone(run("n", 97))), api.ErrName, 0)
	stays(t, changes(gone(run("a/", 32)+"a")), api.ErrPath, 0)
	stays(t, changes(gone(run("a", 95)+"/"+run("b", 60)+"/"+run("c", 38))), api.ErrPath, 0)
}

// Changes need be no delta of trees: any order, the same ones twice.
func TestWriteOfAnyOrder(t *testing.T) {
	l := changes(laid(file("z/y/x", "1")), gone("z"), laid(dir("a")), gone("z"), laid(file("a", "2")), laid(file("z/y/x", "1")))
	var want []api.Member
	for _, c := range l {
		m, no := plainMember(c)
		if no != api.OK {
			t.Fatal(no)
		}
		want = append(want, m)
	}
	writes(t, l, want...)
}

// The Entry of a Gone says nothing, whatever it is.
func TestWriteOfGoneHasNoEntry(t *testing.T) {
	for _, e := range list(dir("a"), file("b", "x"), file("..", run("x", api.MaxFile+1)), dirOf("a", -1), link("a", ""), api.Entry{Kind: 77, Mode: math.MinInt}) {
		c := api.Change{Path: "a", Gone: true, Entry: e}
		writes(t, changes(c), api.Member{Header: api.Header{Path: ".wh.a", Type: '0'}})
		c.Path = "a//b"
		stays(t, changes(c), api.ErrName, 0)
	}
}

func wrongPaths() map[string]api.Errno {
	return map[string]api.Errno{
		"": api.ErrRoot, "/": api.ErrName, ".": api.ErrName, "..": api.ErrName, "../a": api.ErrName, "a/": api.ErrName, "/a": api.ErrName, "a//b": api.ErrName, "a\x00": api.ErrName,
		".wh.a": api.ErrName, ".wh.": api.ErrName, "a/.wh..wh..opq": api.ErrName, "a/.wh..opq": api.ErrName, ".wh.a/b": api.ErrName, run("n", 97): api.ErrName,
		run("a/", 32) + "a": api.ErrPath, run("a/", 32) + "..": api.ErrName, run(run("n", 96)+"/", 2) + "n": api.ErrPath, run("a", 100000): api.ErrName, run("a/", 100000) + "a": api.ErrPath,
	}
}

func TestWriteOfWrongPaths(t *testing.T) {
	for p, no := range wrongPaths() {
		for _, c := range changes(gone(p), laid(dir(p)), laid(file(p, "x")), laid(link(p, "x")), laid(dirOf(p, -1)), laid(link(p, ""))) {
			stays(t, changes(c), no, 0)
			stays(t, changes(gone("a"), laid(file("b", "")), c, gone("")), no, 2)
		}
	}
}

// What is wrong with an entry, by the order of chapter 7; ErrArg goes ahead of it.
func TestWriteOfWrongEntries(t *testing.T) {
	for _, x := range []struct {
		e  api.Entry
		no api.Errno
	}{
		{api.Entry{}, api.ErrKind},
		{api.Entry{Path: "a", Mode: 420}, api.ErrKind},
		{api.Entry{Path: "..", Kind: 4, Mode: -1}, api.ErrKind},
		{api.Entry{Path: "a", Kind: -1}, api.ErrKind},
		{dirOf("a", -1), api.ErrMode},
		{dirOf("a", 4096), api.ErrMode},
		{api.Entry{Path: "a", Kind: api.KFile, Mode: math.MinInt, Data: run("x", api.MaxFile+1)}, api.ErrMode},
		{api.Entry{Path: "a", Kind: api.KLink, Mode: 420}, api.ErrMode},
		{link("a", ""), api.ErrLink},
		{link("a", run("t", 101)), api.ErrLink},
		{link("a", "t\x00"), api.ErrLink},
		{api.Entry{Path: "a", Kind: api.KLink, Mode: 511, Data: "x"}, api.ErrLink},
		{file("a", run("x", api.MaxFile+1)), api.ErrMany},
		{api.Entry{Path: "a", Kind: api.KFile, Data: run("x", api.MaxFile+1), Link: "x"}, api.ErrMany},
		{api.Entry{Path: "a", Kind: api.KFile, Link: "x"}, api.ErrForm},
		{api.Entry{Path: "a", Kind: api.KDir, Data: "x"}, api.ErrForm},
		{api.Entry{Path: "a", Kind: api.KDir, Link: "x"}, api.ErrForm},
		{api.Entry{Path: "a", Kind: api.KLink, Mode: 511, Link: "x", Data: "x"}, api.ErrForm},
	} {
		stays(t, changes(laid(x.e)), x.no, 0)
		stays(t, changes(laid(dir("a")), gone("b"), laid(x.e), laid(api.Entry{})), x.no, 2)
		for _, p := range []string{"", "b", "a/", x.e.Path + "x"} {
			if p != x.e.Path {
				stays(t, changes(gone("b"), api.Change{Path: p, Entry: x.e}), api.ErrArg, 1)
			}
		}
	}
	writes(t, changes(laid(file("a", run("x", api.MaxFile)))), plain("a", run("x", api.MaxFile)))
}

func TestWriteOfManyChanges(t *testing.T) {
	most := api.MaxArchive/512 - 2
	l := slices.Repeat(changes(gone("a"), laid(dir("b"))), most/2+2)
	s, err := layer.Write(l[:most])
	if err != nil || len(s) != api.MaxArchive {
		t.Fatalf("%d bytes, %v", len(s), err)
	}
	stays(t, l[:most+1], api.ErrMany, most)
	stays(t, l, api.ErrMany, most)
	// What is wrong ahead of it, and at the same change, is told; what is wrong behind it isn't.
	wrong := changes(api.Change{Path: "a", Entry: dir("b")}, laid(link("c", "")), gone(""))
	for i, no := range []api.Errno{api.ErrArg, api.ErrLink, api.ErrRoot} {
		stays(t, append(slices.Clone(l[:most-1]), wrong[i], l[0]), no, most-1)
		stays(t, append(slices.Clone(l[:most]), wrong[i], l[0]), no, most)
		stays(t, append(slices.Clone(l[:most+1]), wrong[i]), api.ErrMany, most)
		stays(t, slices.Insert(slices.Clone(l), 7, wrong[i]), no, 7)
	}
}

func TestWriteOfManyBytes(t *testing.T) {
	// Each of these takes a block and 2048 blocks, so that 31 of them leave 2015 blocks.
	big := laid(file("a", run("x", api.MaxFile)))
	l := slices.Repeat(changes(big), 31)
	room := api.MaxArchive - 1024 - 31*(512+api.MaxFile)
	rest := func(n int) api.Change { return laid(file("b", run("y", n))) }
	s, err := layer.Write(append(slices.Clone(l), rest(room-512)))
	if err != nil || len(s) != api.MaxArchive {
		t.Fatalf("%d bytes, %v", len(s), err)
	}
	stays(t, append(slices.Clone(l), rest(room-511)), api.ErrMany, 31)
	stays(t, append(slices.Clone(l), big, gone("")), api.ErrMany, 31)
	stays(t, append(slices.Clone(l), rest(room-512), gone("a")), api.ErrMany, 32)
	stays(t, append(slices.Clone(l), rest(room-512), gone("..")), api.ErrName, 32)
	stays(t, append(slices.Clone(l), rest(room-511), gone("..")), api.ErrMany, 31)
}

// P12.2

// The error of the archive goes ahead of what is wrong with a member.
func TestReadOfNoArchives(t *testing.T) {
	stops(t, "", place{api.ErrShort, 0, 0})
	stops(t, run("\x00", 512), place{api.ErrShort, 0, 512})
	stops(t, run("x", 1024), place{api.ErrForm, 0, 0})
	stops(t, run("\x00", api.MaxArchive+1), place{api.ErrMany, 0, api.MaxArchive})
	s := archiveOf(t, member('1', "h", "", ""), plain("a", "xyz"))
	stops(t, s, place{api.ErrKind, 1, 0})
	stops(t, s[:len(s)-1], place{api.ErrShort, 0, len(s) - 512})
	stops(t, s[:1024]+"\x00xyz", place{api.ErrShort, 0, 1024})
	stops(t, s+run("y", 512), place{api.ErrLong, 0, len(s)})
	stops(t, s[:512]+"b"+s[513:], place{api.ErrSum, 0, 512})
	reads(t, run("\x00", 1024), api.Foreign{})
	reads(t, run("\x00", api.MaxArchive), api.Foreign{})
}

// Each byte as a type, of a mark, a whiteout, the root, an entry.
func TestReadOfEachType(t *testing.T) {
	for kind := range 256 {
		for _, p := range []string{"", "/", "./", "a/..", "..", "a", "a/", "./a/b//", "a/.", ".wh.a", ".wh.a/", "a/.wh.b/.", "a/.wh..wh..opq", ".wh..wh..opq/", ".wh.", "../.wh.", ".wh.x/y"} {
			for _, data := range []string{"", "x"} {
				for _, to := range []string{"", "t"} {
					m := member(byte(kind), p, data, to)
					want, no := plainTell(m)
					if no != api.OK {
						stops(t, archiveOf(t, m), place{no, 1, 0})
						continue
					}
					reads(t, archiveOf(t, m), want)
				}
			}
		}
		if kind != '0' && kind != 0 && kind != '5' && kind != '2' {
			for _, p := range []string{"", "./", "a", ".wh.a", ".wh..wh..opq", ".wh.", "a/.wh..", run("a/", 60) + "a"} {
				stopsAt(t, member(byte(kind), p, "", "t"), api.ErrKind)
			}
		}
	}
}

// What the types mean, row by row.
func TestReadOfEntries(t *testing.T) {
	for _, kind := range []byte{'0', 0} {
		reads(t, archiveOf(t, member(kind, "./a/../f", "x", "not told")), api.Foreign{Puts: list(file("f", "x"))})
		reads(t, archiveOf(t, member(kind, "a/f/", "", "not told")), api.Foreign{Puts: list(dirOf("a/f", 420))})
		reads(t, archiveOf(t, member(kind, "f/.", "", "")), api.Foreign{Puts: list(file("f", ""))})
		stopsAt(t, member(kind, "f/", "x", ""), api.ErrForm)
		stopsAt(t, member(kind, "f", run("x", api.MaxFile+1), ""), api.ErrMany)
	}
	reads(t, archiveOf(t, member('5', "/d", "", "not told")), api.Foreign{Puts: list(dirOf("d", 420))})
	reads(t, archiveOf(t, member('2', "l/", "", "../t")), api.Foreign{Puts: list(link("l", "../t"))})
	reads(t, archiveOf(t, member('2', "l", "", run("t", 100))), api.Foreign{Puts: list(link("l", run("t", 100)))})
	stopsAt(t, member('5', "d/", "x", ""), api.ErrForm)
	stopsAt(t, member('2', "l", "", ""), api.ErrLink)
	stopsAt(t, member('2', "l", "x", ""), api.ErrLink)
	stopsAt(t, member('2', "l", "x", "t"), api.ErrForm)
	stopsAt(t, plain(run("n", 97), ""), api.ErrName)
	stopsAt(t, plain(run("a/", 32)+"a", ""), api.ErrPath)
	// A header can say this path, but not its whiteout.
	stopsAt(t, plain(run("a", 95)+"/"+run("b", 60)+"/"+run("c", 38), ""), api.ErrPath)
	stopsAt(t, plain("a/.wh.b/c", ""), api.ErrName)
	stopsAt(t, plain("a/.wh..wh..opq/c", ""), api.ErrName)
}

func TestReadOfModes(t *testing.T) {
	for _, mode := range []int64{0, 1, 420, 511, 4095, 4096, 4097, 33188, 1<<20 - 1, 2097151} {
		l := members(plain("f", "x"), plain("e/", ""), member('5', "d", "", ""), member('2', "l", "", "t"))
		for i := range l {
			h := &l[i].Header
			h.Mode, h.Uid, h.Gid, h.Time, h.User, h.Group, h.Major, h.Minor = mode, 1, 2, 3, "u", "g", 4, 5
		}
		m := int(mode % 4096)
		reads(t, archiveOf(t, l...), api.Foreign{Puts: list(api.Entry{Path: "f", Kind: api.KFile, Mode: m, Data: "x"}, dirOf("e", m), dirOf("d", m), link("l", "t"))})
	}
}

func TestReadOfMarks(t *testing.T) {
	deep := run("a/", 31) + "a"
	for _, kind := range []byte{'0', 0, '5', '2'} {
		for p, want := range map[string]string{".wh..wh..opq": "", "/.wh..wh..opq": "", "a/../.wh..wh..opq": "", "a/.wh..wh..opq": "a", "./a//b/.wh..wh..opq/": "a/b", deep + "/.wh..wh..opq": deep} {
			for _, data := range []string{"", "any data", run("x", api.MaxFile+1)} {
				reads(t, archiveOf(t, member(kind, p, data, "any link")), api.Foreign{Opaque: []string{want}})
			}
		}
		stopsAt(t, member(kind, ".wh.b/.wh..wh..opq", "", ""), api.ErrName)
		stopsAt(t, member(kind, ".wh..wh..opq/.wh..wh..opq", "", ""), api.ErrName)
		stopsAt(t, member(kind, run("n", 97)+"/.wh..wh..opq", "", ""), api.ErrName)
		stopsAt(t, member(kind, "a/"+deep+"/.wh..wh..opq", "", ""), api.ErrPath)
	}
	// These only look like it.
	reads(t, archiveOf(t, plain("a/wh..wh..opq", ""), plain(".Wh..wh..opq", "")), api.Foreign{Puts: list(file("a/wh..wh..opq", ""), file(".Wh..wh..opq", ""))})
	for _, p := range []string{".wh..wh..opqq", ".wh..wh..op", ".wh..wh..wh..opq", ".wh..wh..OPQ", "a/.wh..wh..opq.", ".wh..wh."} {
		stopsAt(t, plain(p, ""), api.ErrName)
	}
	reads(t, archiveOf(t, plain(".wh..opq", ""), plain("a/.wh..wh", "")), api.Foreign{Gone: []string{".opq", "a/.wh"}})
}

func TestReadOfWhiteouts(t *testing.T) {
	deep := run("a/", 31)
	for _, kind := range []byte{'0', 0, '5', '2'} {
		for p, want := range map[string]string{".wh.a": "a", "/a/./.wh.b": "a/b", "a/../.wh.a": "a", "b/.wh.a/": "b/a", ".wh....": "...", ".wh..wh": ".wh", deep + ".wh.a": deep + "a", ".wh." + run("n", 96): run("n", 96), ".wh.\xff": "\xff", ".wh. ": " "} {
			for _, data := range []string{"", "any data", run("x", api.MaxFile+1)} {
				reads(t, archiveOf(t, member(kind, p, data, "any link")), api.Foreign{Gone: []string{want}})
			}
		}
		for p, no := range map[string]api.Errno{
			".wh.": api.ErrName, ".wh..": api.ErrName, ".wh...": api.ErrName, ".wh..wh.": api.ErrName, ".wh..wh.x": api.ErrName, "a/.wh.": api.ErrName, "a/.wh..": api.ErrName, deep + "a/.wh.": api.ErrName,
			".wh.b/.wh.a": api.ErrName, ".wh./.wh.a": api.ErrName, "a/" + deep + ".wh.a": api.ErrPath, "a/" + deep + ".wh..": api.ErrName,
		} {
			stopsAt(t, member(kind, p, "", ""), no)
		}
	}
}

// The first member that is wrong decides; all lists stand in the order of the members.
func TestReadInOrder(t *testing.T) {
	l := members(plain("z", "1"), plain(".wh.z", ""), plain("b/.wh..wh..opq", ""), plain("a", "2"), plain(".wh..wh..opq", ""), plain("z", "3"), plain("y/.wh.x", ""), folder("", 0), plain(".wh.z", ""), plain("b/.wh..wh..opq", ""), plain("z", "1"))
	reads(t, archiveOf(t, l...), api.Foreign{Gone: []string{"z", "y/x", "z"}, Opaque: []string{"b", "", "b"}, Puts: list(file("z", "1"), file("a", "2"), file("z", "3"), file("z", "1"))})
	wrong := []struct {
		m  api.Member
		no api.Errno
	}{{member('1', "a", "", ""), api.ErrKind}, {plain(".wh.", ""), api.ErrName}, {member('2', "a", "", ""), api.ErrLink}, {member('5', "a", "x", ""), api.ErrForm}, {plain(run("a/", 33)+".wh.x", ""), api.ErrPath}}
	for _, x := range wrong {
		for _, y := range wrong {
			for at := range len(l) {
				stops(t, archiveOf(t, slices.Concat(l[:at], members(x.m), l[at:], members(y.m))...), place{x.no, 1, at})
			}
		}
	}
}

// P12.3

// Each of these is no tree, and is refused by the number at the place.
func TestApplyToNoTrees(t *testing.T) {
	for _, x := range []struct {
		l  []api.Entry
		no api.Errno
		at int
	}{
		{list(api.Entry{}), api.ErrKind, 0},
		{list(dir("a"), file("", "x")), api.ErrRoot, 1},
		{list(dir("a"), dir("a/..")), api.ErrName, 1},
		{list(dir(run("a/", 32) + "a")), api.ErrPath, 0},
		{list(dir("a"), dirOf("b", -1)), api.ErrMode, 1},
		{list(dir("a"), link("b", "")), api.ErrLink, 1},
		{list(file("a", run("x", api.MaxFile+1))), api.ErrMany, 0},
		{list(api.Entry{Path: "a", Kind: api.KDir, Data: "x"}), api.ErrForm, 0},
		{list(dir("a"), dir("b"), dir("b")), api.ErrTwice, 2},
		{list(dir("a"), file("a.b", "x"), file("a/b", "x")), api.ErrArg, 2},
		{list(dir("a"), dir("b/c")), api.ErrNone, 1},
		{list(file("a", "x"), dir("a/b")), api.ErrDir, 1},
		{many(4097), api.ErrMany, 4096},
		{append(heavy(), file("z", "x")), api.ErrMany, 16},
	} {
		for _, l := range [][]api.Member{nil, members(plain("z", "z")), members(plain(".wh.a", ""), plain(".wh.b", "")), members(plain(".wh..wh..opq", ""))} {
			got, err := layer.Apply(x.l, archiveOf(t, l...))
			refused(t, "Apply to what is no tree", err, place{x.no, 2, x.at})
			if len(got) != 0 {
				t.Fatalf("beside an error: %s", short(got))
			}
		}
		_, err := layer.Apply(x.l, archiveOf(t, plain("a", ""), plain(".wh.", "")))
		refused(t, "both are wrong", err, place{api.ErrName, 1, 1})
		_, err = layer.Apply(x.l, run("\x00", 1023))
		refused(t, "both are wrong", err, place{api.ErrShort, 0, 512})
	}
}

func TestApplyOfNothing(t *testing.T) {
	l := list(dir("a"), file("a/b", "x"), file("a.b", "y"), link("l", "a"))
	for _, a := range [][]api.Entry{nil, list(), l} {
		makes(t, a, nil, a...)
		makes(t, a, members(folder("./", 0), plain("", ""), plain("a/..", "data"), member('2', "/", "", "")), a...)
	}
}

func TestApplyOfWhiteouts(t *testing.T) {
	l := list(dir("a"), dir("a/b"), file("a/b/c", "x"), link("a/l", "b"), file("a.b", "y"), dir("aa"), file("aa/b", "z"))
	hides := func(paths ...string) []api.Member {
		var m []api.Member
		for _, p := range paths {
			m = append(m, plain(p, ""))
		}
		return m
	}
	makes(t, l, hides(".wh.a"), l[4:]...)
	makes(t, l, hides("a/.wh.b"), l[0], l[3], l[4], l[5], l[6])
	makes(t, l, hides("a/b/.wh.c"), l[0], l[1], l[3], l[4], l[5], l[6])
	makes(t, l, hides("a/.wh.l", ".wh.a.b"), l[0], l[1], l[2], l[5], l[6])
	makes(t, l, hides(".wh.aa", "aa/.wh.b", "a/b/.wh.c", "a/.wh.b", ".wh.a", ".wh.a.b", ".wh.a"))
	// What isn't there: nothing.
	makes(t, l, hides(".wh.b", "a/.wh.c", "a/b/c/.wh.d", "a/l/.wh.c", "x/y/.wh.z", ".wh.A", ".wh.a.", "a.b/.wh.b"), l...)
	makes(t, nil, hides(".wh.a"))
	makes(t, l, hides("a/.wh..wh..opq"), l[0], l[4], l[5], l[6])
	makes(t, l, hides("a/b/.wh..wh..opq"), l[0], l[1], l[3], l[4], l[5], l[6])
	makes(t, l, hides(".wh..wh..opq"))
	makes(t, l, hides("a/.wh..wh..opq", ".wh.aa"), l[0], l[4])
	makes(t, l, hides("a/b/c/.wh..wh..opq", "a/l/.wh..wh..opq", "x/.wh..wh..opq", "a.b/.wh..wh..opq", "A/.wh..wh..opq"), l...)
	makes(t, nil, hides(".wh..wh..opq", "a/.wh..wh..opq"))
}

// Only what was there ahead of the layer is hidden, wherever whiteouts and marks stand.
func TestApplyHidesNothingOfTheLayer(t *testing.T) {
	l := list(dirOf("a", 448), dirOf("a/b", 448), file("a/b/c", "x"), file("a/d", "x"))
	news := members(plain("a/b/e", "y"), plain("f", "z"))
	for _, x := range []struct {
		mark string
		want []api.Entry
	}{
		{".wh.a", list(dir("a"), dir("a/b"), file("a/b/e", "y"), file("f", "z"))},
		{"a/.wh.b", list(l[0], dir("a/b"), file("a/b/e", "y"), l[3], file("f", "z"))},
		{"a/b/.wh.e", list(l[0], l[1], l[2], file("a/b/e", "y"), l[3], file("f", "z"))},
		{"a/b/.wh.c", list(l[0], l[1], file("a/b/e", "y"), l[3], file("f", "z"))},
		{".wh.f", list(l[0], l[1], l[2], file("a/b/e", "y"), l[3], file("f", "z"))},
		{".wh..wh..opq", list(dir("a"), dir("a/b"), file("a/b/e", "y"), file("f", "z"))},
		{"a/.wh..wh..opq", list(l[0], dir("a/b"), file("a/b/e", "y"), file("f", "z"))},
		{"a/b/.wh..wh..opq", list(l[0], l[1], file("a/b/e", "y"), l[3], file("f", "z"))},
	} {
		for at := range len(news) + 1 {
			makes(t, l, slices.Insert(slices.Clone(news), at, plain(x.mark, "")), x.want...)
		}
	}
}

// What comes back comes back alone, of whatever kind it is.
func TestApplyOfWhatComesBack(t *testing.T) {
	l := list(dirOf("a", 448), file("a/b", "x"), dirOf("a/c", 448), file("a/c/d", "x"))
	for _, mark := range members(plain(".wh.a", ""), plain(".wh..wh..opq", "")) {
		makes(t, l, members(mark, folder("a", 1)), dirOf("a", 1))
		makes(t, l, members(mark, plain("a", "y")), file("a", "y"))
		makes(t, l, members(mark, member('2', "a", "", "t")), link("a", "t"))
		makes(t, l, members(mark, plain("a", "y"), folder("a", 1)), dirOf("a", 1))
		makes(t, l, members(mark, folder("a", 1), plain("a", "y")), file("a", "y"))
		makes(t, l, members(mark, plain("a", "y"), plain("a/c/e", "z")), dir("a"), dir("a/c"), file("a/c/e", "z"))
		makes(t, l, members(mark, plain("a/b/d", "y")), dir("a"), dir("a/b"), file("a/b/d", "y"))
		makes(t, l, members(mark, plain("a/c", "y")), dir("a"), file("a/c", "y"))
		makes(t, l, members(mark, plain("a/c", "y"), plain("a/c/f", "y")), dir("a"), dir("a/c"), file("a/c/f", "y"))
		makes(t, l, members(mark, folder("a/c", 2), plain("a", "y"), folder("a/c", 3)), dir("a"), dirOf("a/c", 3))
	}
	makes(t, l, members(plain("a/.wh.c", ""), folder("a/c", 1)), l[0], l[1], dirOf("a/c", 1))
	makes(t, l, members(plain("a/.wh.c", ""), plain("a/c/d", "y")), l[0], l[1], dir("a/c"), file("a/c/d", "y"))
	makes(t, l, members(plain("a/c/.wh.d", ""), folder("a/c", 1)), l[0], l[1], dirOf("a/c", 1))
	makes(t, l, members(plain("a/.wh.b", ""), plain("a/b", "y")), l[0], file("a/b", "y"), l[2], l[3])
}

func TestApplyOfEachKindOverEachKind(t *testing.T) {
	news := members(plain("a/b", "new"), member('2', "a/b", "", "new"), folder("a/b", 448))
	laid := list(file("a/b", "new"), link("a/b", "new"), dirOf("a/b", 448))
	for i, m := range news {
		makes(t, nil, members(m), dir("a"), laid[i])
		makes(t, list(file("a", "x")), members(m), dir("a"), laid[i])
		makes(t, list(link("a", "c"), dir("c")), members(m), dir("a"), laid[i], dir("c"))
		makes(t, list(dirOf("a", 448)), members(m), dirOf("a", 448), laid[i])
		for _, old := range list(file("a/b", "old"), link("a/b", "old"), dirOf("a/b", 1)) {
			makes(t, list(dir("a"), old, file("a/c", "x")), members(m), dir("a"), laid[i], file("a/c", "x"))
		}
		old := list(dir("a"), dir("a/b"), file("a/b/c", "x"), dir("a/b/d"), file("a/b/d/e", "x"), file("a/b.c", "x"))
		if laid[i].Kind == api.KDir {
			makes(t, old, members(m), dir("a"), laid[i], old[2], old[3], old[4], old[5])
		} else {
			makes(t, old, members(m), dir("a"), laid[i], old[5])
		}
	}
}

// Entries of one layer stand in one another's way: the later one counts.
func TestApplyOfEntriesInTheirOrder(t *testing.T) {
	makes(t, nil, members(plain("a", "1"), plain("a", "2"), plain("b", "3"), plain("a", "4")), file("a", "4"), file("b", "3"))
	makes(t, nil, members(plain("a", "1"), plain("a/b", "2")), dir("a"), file("a/b", "2"))
	makes(t, nil, members(plain("a/b", "2"), plain("a", "1")), file("a", "1"))
	makes(t, nil, members(plain("a/b/c", "1"), plain("a", "2"), plain("a/d", "3")), dir("a"), file("a/d", "3"))
	makes(t, nil, members(plain("a/b/c", "1"), folder("a", 1), folder("a/b", 2)), dirOf("a", 1), dirOf("a/b", 2), file("a/b/c", "1"))
	makes(t, nil, members(folder("a", 1), member('2', "a", "", "t"), plain("a/b", "1")), dir("a"), file("a/b", "1"))
	makes(t, nil, members(folder("a", 1), folder("a", 2), plain("a.b", ""), plain("a/b", ""), plain("a!", "")), dirOf("a", 2), file("a/b", ""), file("a!", ""), file("a.b", ""))
	// A path begins with another's bytes, but doesn't lie below it.
	makes(t, list(dir("a"), file("a/b", "x"), dir("ab"), file("ab/c", "x")), members(plain("a", "y")), file("a", "y"), dir("ab"), file("ab/c", "x"))
}

func TestApplyOfParentsThatAreLeftOut(t *testing.T) {
	deep := run("a/", 31) + "a"
	var want []api.Entry
	for i := range 31 {
		want = append(want, dir(deep[:2*i+1]))
	}
	makes(t, nil, members(plain(deep, "x")), append(want, file(deep, "x"))...)
	makes(t, list(file("a", "x")), members(folder(deep, 1)), append(want, dirOf(deep, 1))...)
	makes(t, list(dirOf("a", 0), link("a/a", "t")), members(plain(deep, "x")), append(append(list(dirOf("a", 0)), want[1:]...), file(deep, "x"))...)
}

// There may be more in the midst, but not in the end.
func TestApplyOfMany(t *testing.T) {
	full := many(4096)
	makes(t, full, nil, full...)
	makes(t, full, members(plain("f00000", "")), full...)
	tooMuch(t, full, members(plain("g", "")))
	tooMuch(t, full, members(folder("g", 0)))
	tooMuch(t, full[:4094], members(plain("g/h/i", "")))
	makes(t, full[:4093], members(plain("g/h/i", "")), append(slices.Clone(full[:4093]), dir("g"), dir("g/h"), file("g/h/i", ""))...)
	makes(t, full, members(plain("g", ""), plain(".wh.f00000", "")), append(slices.Clone(full[1:]), file("g", ""))...)
	makes(t, full, members(plain("g", ""), plain(".wh..wh..opq", "")), file("g", ""))
	makes(t, full[:4095], members(plain("g/a", ""), plain("g/b", ""), plain("g/c/d", ""), plain("g", "")), append(slices.Clone(full[:4095]), file("g", ""))...)
	tooMuch(t, full, members(plain("g/a", ""), plain("g/b", ""), plain("g", "")))
	tooMuch(t, full, members(plain("g", ""), plain(".wh.g", "")))
}

func TestApplyOfManyBytes(t *testing.T) {
	full := heavy()
	makes(t, full, members(plain("z", ""), folder("y", 493)), append(slices.Clone(full), dir("y"), file("z", ""))...)
	tooMuch(t, full, members(plain("z", "x")))
	makes(t, full, members(plain("z", "x"), plain(".wh.a", "")), append(slices.Clone(full[1:]), file("z", "x"))...)
	makes(t, full, members(plain("z", "x"), plain("a", full[0].Data[1:])), append(append(list(file("a", full[0].Data[1:])), full[1:]...), file("z", "x"))...)
	makes(t, full, members(plain("z/y", full[0].Data), plain("z", "")), append(slices.Clone(full), file("z", ""))...)
	tooMuch(t, full, members(plain("z/y", full[0].Data), folder("z", 0)))
	// One path that comes 30 times is one file.
	makes(t, nil, slices.Repeat(members(plain("a", full[0].Data)), 30), full[0])
}

// The longest layers there are, and what costs most in them.
func TestApplyOfTheLongestLayers(t *testing.T) {
	most := api.MaxArchive/512 - 2
	full := many(4096)
	var whiteouts, marks, turns []api.Member
	for i := range most {
		whiteouts = append(whiteouts, plain(fmt.Sprintf(".wh.f%05d", i+4090), ""))
		marks = append(marks, plain(fmt.Sprintf("f%05d/.wh..wh..opq", i), ""))
		switch {
		case i < most/2:
			turns = append(turns, plain(fmt.Sprintf("x/%d", i), ""))
		case i == most-1:
			turns = append(turns, plain("x", ""))
		case i%2 == 0:
			turns = append(turns, folder("y/z", 0))
		default:
			turns = append(turns, plain("y", ""))
		}
	}
	makes(t, full, whiteouts, full[:4090]...)
	makes(t, full, marks, full...)
	makes(t, nil, turns, file("x", ""), dir("y"), dirOf("y/z", 0))
	tooMuch(t, nil, turns[:most-1])
}

// P12.4

// small are all trees that can be made of a few entries.
func small() [][]api.Entry {
	var all [][]api.Entry
	for _, a := range list(api.Entry{}, dir("a"), dirOf("a", 448), file("a", "x"), link("a", "x")) {
		for _, ab := range list(api.Entry{}, dir("a/b"), file("a/b", "x"), file("a/b", "y"), link("a/b", "x")) {
			for _, abc := range list(api.Entry{}, file("a/b/c", "x"), link("a/b/c", "x")) {
				for _, last := range list(api.Entry{}, file("a.b", "x")) {
					var l []api.Entry
					for _, e := range list(a, ab, abc, last) {
						if e.Kind != api.KNone {
							l = append(l, e)
						}
					}
					if tree.Check(l) == nil {
						all = append(all, l)
					}
				}
			}
		}
	}
	return all
}

// passes fails unless the delta of two trees goes through a layer, and makes the second out of the first.
func passes(t *testing.T, a, b []api.Entry) {
	t.Helper()
	l, err := delta.Diff(a, b)
	if err != nil {
		t.Fatal(err)
	}
	s, err := layer.Write(l)
	if err != nil {
		t.Fatalf("Write of %s: %v", short(l), err)
	}
	got, err := layer.Apply(a, s)
	if err != nil || !slices.Equal(got, b) {
		t.Fatalf("from %s to %s: %s, %v", short(a), short(b), short(got), err)
	}
	comesBack(t, l, s)
}

// comesBack fails unless Read tells the changes of which Write made s.
func comesBack(t *testing.T, l []api.Change, s string) {
	t.Helper()
	var want api.Foreign
	for _, c := range l {
		if c.Gone {
			want.Gone = append(want.Gone, c.Path)
		} else {
			want.Puts = append(want.Puts, c.Entry)
		}
	}
	reads(t, s, want)
}

func TestThereAndBackOfAllPairs(t *testing.T) {
	all := small()
	if len(all) < 30 {
		t.Fatalf("only %d trees", len(all))
	}
	for _, a := range all {
		for _, b := range all {
			passes(t, a, b)
		}
	}
}

func someName(r *rand.Rand) string {
	return []string{"a", "b", "a.b", "a!", ".wh", "\xff", run("n", 90)}[r.Intn(7)]
}

func somePath(r *rand.Rand) string {
	p := someName(r)
	for r.Intn(2) > 0 && len(p) < 100 {
		p += "/" + someName(r)
	}
	return p
}

func someEntry(r *rand.Rand) api.Entry {
	p := somePath(r)
	switch r.Intn(5) {
	case 0, 1:
		return file(p, []string{"", "x", "y", run("z", 600)}[r.Intn(4)])
	case 2:
		return link(p, []string{"t", "/", "../a"}[r.Intn(3)])
	}
	return dirOf(p, []int{493, 493, 448, 0}[r.Intn(4)])
}

func someTree(r *rand.Rand) []api.Entry {
	x := tree.New()
	for range r.Intn(40) {
		x.Put(someEntry(r))
	}
	return x.List()
}

func TestThereAndBack(t *testing.T) {
	r := rand.New(rand.NewSource(1))
	for range 3000 {
		passes(t, someTree(r), someTree(r))
	}
}

// Any changes that Write takes come back, be they a delta or not.
func TestReadOfWrite(t *testing.T) {
	r := rand.New(rand.NewSource(2))
	taken := 0
	for range 5000 {
		var l []api.Change
		for range r.Intn(6) {
			l = append(l, someChange(r))
		}
		s, err := layer.Write(l)
		want, wrong := plainWrite(l)
		if wrong.no != api.OK {
			refused(t, "Write of "+short(l), err, wrong)
			continue
		}
		if err != nil || s != want {
			t.Fatalf("Write of %s: %v", short(l), err)
		}
		taken++
		comesBack(t, l, s)
	}
	if taken < 1000 || taken > 4000 {
		t.Errorf("%d were taken", taken)
	}
}

// someChange is sometimes wrong.
func someChange(r *rand.Rand) api.Change {
	c := laid(someEntry(r))
	if r.Intn(3) == 0 {
		c = api.Change{Path: c.Path, Gone: true}
	}
	switch r.Intn(30) {
	case 0:
		c.Path += "/.."
	case 1:
		c.Path, c.Entry.Path = "", ""
	case 2:
		c.Entry.Mode -= 500
	case 3:
		c.Entry.Link += "x"
	case 4:
		c.Entry.Data += "x"
	case 5:
		c.Entry.Kind = api.Kind(r.Intn(9) - 3)
	}
	return c
}

// The greatest delta there is: all of a tree is gone, and another is laid.
func TestThereAndBackOfTheGreatestTrees(t *testing.T) {
	var a, b []api.Entry
	for i := range api.MaxEntries {
		data := run("x", api.MaxTree/api.MaxEntries-1+i%2*2)
		a = append(a, file(fmt.Sprintf("a%04d", i), data))
		b = append(b, file(fmt.Sprintf("b%04d", i), data))
	}
	passes(t, a, b)
	passes(t, b, nil)
	passes(t, nil, a)
	passes(t, heavy(), many(4096))
}

// P12.3, P12.5, P12.6, of layers whoever wrote them

// foreign is any member that others may write.
func foreign(r *rand.Rand) api.Member {
	p := somePath(r)
	switch r.Intn(10) {
	case 0:
		p = path.Join(path.Parent(p), ".wh."+path.Last(p))
	case 1:
		p = path.Join([]string{"", p, "a"}[r.Intn(3)], ".wh..wh..opq")
	case 2:
		p = []string{"./", "/", ""}[r.Intn(3)] + p
	case 3:
		p += []string{"/", "/.", "//", "/../b"}[r.Intn(4)]
	case 4:
		p = []string{"", "./", "a/.."}[r.Intn(3)]
	}
	if _, _, err := path.Split(p); err != nil { // no header can say it
		p = "b"
	}
	m := member("00\x0055522"[r.Intn(8)], p, "", "")
	m.Header.Mode = []int64{420, 493, 0, 33188}[r.Intn(4)]
	if m.Header.Type == '2' {
		m.Header.Link = "t"
	} else if m.Header.Type != '5' && !strings.HasSuffix(p, "/") {
		m.Data = []string{"", "x", run("y", 600)}[r.Intn(3)]
		m.Header.Size = int64(len(m.Data))
	}
	return m
}

// spoil makes a member, sometimes, one that may be refused.
func spoil(r *rand.Rand, m api.Member) api.Member {
	switch r.Intn(100) {
	case 0:
		m.Header.Type = "1367x"[r.Intn(5)]
	case 1:
		m.Header.Path = []string{".wh.", "a/.wh..", ".wh..wh.x", ".wh.a/b", ".wh.a/.wh..wh..opq"}[r.Intn(5)]
	case 2:
		m.Header.Path = run("a/", 33) + []string{"", ".wh.b", ".wh..wh..opq", ".wh."}[r.Intn(4)]
	case 3:
		m.Header.Link = ""
	case 4:
		m.Data, m.Header.Size = "x", 1
	}
	return m
}

// follows fails unless P12.6, and the second half of P12.5, hold of what Apply answered.
func follows(t *testing.T, a []api.Entry, f api.Foreign, got []api.Entry) {
	t.Helper()
	if err := tree.Check(got); err != nil {
		t.Fatalf("of %s over %s comes no tree: %v", short(f), short(a), err)
	}
	for i, e := range f.Puts {
		covered := slices.ContainsFunc(f.Puts[i+1:], func(later api.Entry) bool {
			return later.Path == e.Path || path.Below(e.Path, later.Path) && e.Kind != api.KDir || path.Below(later.Path, e.Path) && later.Kind != api.KDir
		})
		if now, there := plainAt(got, e.Path); !covered && (!there || now != e) {
			t.Fatalf("of %s over %s %q isn't there", short(f), short(a), e.Path)
		}
	}
	if len(f.Gone)+len(f.Opaque) > 0 {
		return
	}
	for _, e := range a {
		above := slices.ContainsFunc(f.Puts, func(put api.Entry) bool {
			return put.Kind != api.KDir && path.Below(put.Path, e.Path)
		})
		if _, there := plainAt(got, e.Path); !there && !above {
			t.Fatalf("of %s over %s %q is lost", short(f), short(a), e.Path)
		}
	}
}

// isHiding tells whether a member is a mark or a whiteout.
func isHiding(m api.Member) bool {
	return strings.HasPrefix(path.Last(path.Clean(m.Header.Path)), ".wh.")
}

// agree fails unless Read and Apply answer as the second telling does; and the same, if what hides is put ahead of all, or behind it.
func agree(t *testing.T, a []api.Entry, l []api.Member) bool {
	t.Helper()
	s := archiveOf(t, l...)
	f, wrong := plainRead(l)
	if wrong.no != api.OK {
		stops(t, s, wrong)
		return false
	}
	reads(t, s, f)
	want, fits := plainApply(a, f)
	if !fits {
		t.Fatal("too much for this test")
	}
	makes(t, a, l, want...)
	follows(t, a, f, want)
	var hiding, rest []api.Member
	for _, m := range l {
		if isHiding(m) {
			hiding = append(hiding, m)
		} else {
			rest = append(rest, m)
		}
	}
	makes(t, a, slices.Concat(hiding, rest), want...)
	makes(t, a, slices.Concat(rest, hiding), want...)
	return true
}

func TestForeignLayers(t *testing.T) {
	r := rand.New(rand.NewSource(3))
	taken, bare := 0, 0
	for range 8000 {
		var l []api.Member
		for range r.Intn(12) {
			l = append(l, spoil(r, foreign(r)))
		}
		if agree(t, someTree(r), l) {
			taken++
			if len(l) > 2 && !slices.ContainsFunc(l, isHiding) {
				bare++
			}
		}
	}
	if taken < 4000 || taken > 7900 || bare < 500 {
		t.Errorf("%d were taken, %d of them without whiteouts", taken, bare)
	}
}

// All short layers of a few members, over all small trees.
func TestAllShortLayers(t *testing.T) {
	all := members(plain(".wh.a", ""), plain("a/.wh.b", ""), plain("a/.wh..wh..opq", ""), plain(".wh..wh..opq", ""), plain("a", "z"), folder("a", 1), plain("a/b", "z"), folder("a/b", 1), plain("a/b/c", "z"), folder("a/b/c", 1))
	for _, a := range small() {
		for _, x := range all {
			agree(t, a, members(x))
			for _, y := range all {
				agree(t, a, members(x, y))
			}
		}
	}
	a := list(dir("a"), dir("a/b"), file("a/b/c", "x"), file("a.b", "x"))
	for _, x := range all {
		for _, y := range all {
			for _, z := range all {
				agree(t, a, members(x, y, z))
			}
		}
	}
}

// R1: whatever the bytes.
func TestLayersThatWereTurned(t *testing.T) {
	r := rand.New(rand.NewSource(4))
	for range 5000 {
		var l []api.Member
		for range 1 + r.Intn(4) {
			l = append(l, foreign(r))
		}
		b := []byte(archiveOf(t, l...))
		for range r.Intn(3) {
			b[r.Intn(len(b))] = byte(r.Intn(256))
		}
		s := string(b[:len(b)-r.Intn(2)*r.Intn(len(b))])
		a := someTree(r)
		found, err := archive.Read(s)
		if err == nil {
			agree(t, a, found)
			continue
		}
		var fault api.Fault
		if !errors.As(err, &fault) {
			t.Fatal(err)
		}
		stops(t, s, place{fault.No, 0, fault.At})
	}
}

// R4

// spoiled is a row with spare room behind it, in which something stands.
func spoiled[E any](l []E, e E) []E {
	room := append(make([]E, 0, len(l)+5), l...)
	for i := range 5 {
		room[:len(l)+5][len(l)+i] = e
	}
	return room
}

func TestMemory(t *testing.T) {
	l := spoiled(changes(gone("a"), laid(dir("a")), laid(file("a/b", "x"))), gone("spare"))
	a := spoiled(list(file("a", "x"), dir("d"), file("d/f", "f")), file("z", "z"))
	allChanges, allEntries := slices.Clone(l[:cap(l)]), slices.Clone(a[:cap(a)])
	s, err := layer.Write(l)
	if err != nil {
		t.Fatal(err)
	}
	marked := archiveOf(t, plain(".wh.x", ""), plain("x/.wh..wh..opq", ""), plain("y", ""))
	for range 2 {
		got, err := layer.Apply(a, s)
		if err != nil || !slices.Equal(got, list(dir("a"), file("a/b", "x"), dir("d"), file("d/f", "f"))) {
			t.Fatal(got, err)
		}
		clear(got[:cap(got)])
		same, err := layer.Apply(a, run("\x00", 1024))
		if err != nil || !slices.Equal(same, a) {
			t.Fatal(same, err)
		}
		clear(same[:cap(same)])
		f, err := layer.Read(marked)
		if err != nil || !sameForeign(f, api.Foreign{Gone: []string{"x"}, Opaque: []string{"x"}, Puts: list(file("y", ""))}) {
			t.Fatal(f, err)
		}
		clear(f.Gone[:cap(f.Gone)])
		if f.Opaque[0] != "x" {
			t.Fatal("two lists of one answer share their memory")
		}
		clear(f.Opaque[:cap(f.Opaque)])
		clear(f.Puts[:cap(f.Puts)])
	}
	if !slices.Equal(l[:cap(l)], allChanges) || !slices.Equal(a[:cap(a)], allEntries) {
		t.Error("an argument was changed")
	}
}

// W5: layers are archives of POSIX.1-1988, so another reader and another writer of them agree.

func TestAnotherReader(t *testing.T) {
	s, err := layer.Write(changes(gone("a/b"), laid(dirOf("d", 448)), laid(file("d/f", run("f", 700))), laid(link("d/l", "../x")), gone(run("n", 96)+"/"+run("m", 96))))
	if err != nil {
		t.Fatal(err)
	}
	r := tar.NewReader(strings.NewReader(s))
	told := ""
	for {
		h, err := r.Next()
		if err == io.EOF {
			break
		}
		if err != nil || h.Format != tar.FormatUSTAR {
			t.Fatal(h, err)
		}
		data, err := io.ReadAll(r)
		if err != nil {
			t.Fatal(err)
		}
		told += fmt.Sprintf("%s %c %o %d %q; ", h.Name, h.Typeflag, h.Mode, len(data), h.Linkname)
	}
	want := `a/.wh.b 0 0 0 ""; d 5 700 0 ""; d/f 0 644 700 ""; d/l 2 777 0 "../x"; ` + run("n", 96) + "/.wh." + run("m", 96) + ` 0 0 0 ""; `
	if told != want {
		t.Errorf("another reader finds %s", told)
	}
}

func TestAnotherWriter(t *testing.T) {
	var out bytes.Buffer
	w := tar.NewWriter(&out)
	for _, h := range []tar.Header{
		{Name: "./", Typeflag: tar.TypeDir, Mode: 0o755},
		{Name: "./etc/", Typeflag: tar.TypeDir, Mode: 0o700, Uname: "root", Gname: "root"},
		{Name: "./etc/.wh..wh..opq", Typeflag: tar.TypeReg, Mode: 0o600},
		{Name: "./etc/new", Typeflag: tar.TypeReg, Mode: 0o644, Size: 600, Uid: 1000},
		{Name: "./bin/sh", Typeflag: tar.TypeSymlink, Linkname: "/bin/busybox", Mode: 0o777},
		{Name: "./tmp/.wh.old", Typeflag: tar.TypeReg, Mode: 0o600},
	} {
		h.Format = tar.FormatUSTAR
		if err := w.WriteHeader(&h); err != nil {
			t.Fatal(err)
		}
		io.WriteString(w, run("f", int(h.Size)))
	}
	w.Close()
	a := list(dir("etc"), file("etc/passwd", "x"), dirOf("tmp", 1023), dir("tmp/old"), file("tmp/old/f", "x"), file("tmp/older", "x"))
	want := list(dir("bin"), link("bin/sh", "/bin/busybox"), dirOf("etc", 448), file("etc/new", run("f", 600)), dirOf("tmp", 1023), file("tmp/older", "x"))
	got, err := layer.Apply(a, out.String())
	if err != nil || !slices.Equal(got, want) {
		t.Errorf("%s, %v", short(got), err)
	}
}
