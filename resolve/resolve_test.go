package resolve_test

import (
	"errors"
	"math/rand"
	"slices"
	"strconv"
	"strings"
	"testing"

	"strata/api"
	"strata/path"
	"strata/resolve"
	"strata/tree"
)

func dir(p string) api.Entry { return dirOf(p, 493) }

func dirOf(p string, mode int) api.Entry { return api.Entry{Path: p, Kind: api.KDir, Mode: mode} }

func file(p, data string) api.Entry {
	return api.Entry{Path: p, Kind: api.KFile, Mode: 420, Data: data}
}

func link(p, to string) api.Entry {
	return api.Entry{Path: p, Kind: api.KLink, Mode: 511, Link: to}
}

func list(l ...api.Entry) []api.Entry { return l }

// treeOf is a tree of entries, which may stand in any order.
func treeOf(t *testing.T, l ...api.Entry) *tree.Tree {
	t.Helper()
	x, err := tree.Of(ordered(l...))
	if err != nil {
		t.Fatalf("Of is refused: %v", err)
	}
	return x
}

func ordered(l ...api.Entry) []api.Entry { return plainWith(l) }

// full is a tree of n entries: the directories d and d/e, the link l to d/e, and files.
func full(n int) []api.Entry {
	l := list(dir("d"), dir("d/e"))
	for i := range n - 3 {
		l = append(l, file("f"+strconv.Itoa(100000+i), ""))
	}
	return append(l, link("l", "d/e"))
}

// example is the tree of the chapter's examples, with modes of all sorts.
func example() []api.Entry {
	return ordered(dirOf("a", 448), dirOf("a/b", 0), file("a/f", "f"), link("l", "a/b"), link("a/up", "../x"),
		link("top", "/a"), link("o", "o"), link("a/b/g", "../f"), link("n", "none"))
}

// just fails unless err is just the number no, nil for api.OK, and tells no place.
func just(t *testing.T, call string, err error, no api.Errno) {
	t.Helper()
	if no == api.OK {
		if err != nil {
			t.Fatalf("%s is refused: %v", call, err)
		}
		return
	}
	for other := api.ErrArg; other <= api.ErrEmpty; other++ {
		if errors.Is(err, other) != (other == no) {
			t.Fatalf("%s: the error is %v, not %v", call, err, no)
		}
	}
	var fault api.Fault
	if errors.As(err, &fault) {
		t.Fatalf("%s: the error tells a place: %+v", call, fault)
	}
}

func wantList(t *testing.T, call string, got, want []api.Entry) {
	t.Helper()
	if !slices.Equal(got, want) {
		t.Fatalf("%s: the tree is %.2000v, not %.2000v", call, got, want)
	}
}

// ask is the call of a row.
func ask(x *tree.Tree, way string, r row) (string, error) {
	switch r {
	case rowFind:
		return resolve.Find(x, way, true)
	case rowStay:
		return resolve.Find(x, way, false)
	case rowMake:
		return resolve.Make(x, way)
	}
	return resolve.Place(x, way)
}

// leads fails unless the call of a row over the tree l answers want, or the error no; the tree must then have just made besides.
func leads(t *testing.T, l []api.Entry, r row, way, want string, no api.Errno, made ...string) {
	t.Helper()
	call := r.String() + " of " + strconv.Quote(way[:min(60, len(way))])
	x := treeOf(t, l...)
	got, err := ask(x, way, r)
	just(t, call, err, no)
	if got != want {
		t.Fatalf("%s is %q, not %q", call, got, want)
	}
	var more []api.Entry
	for _, p := range made {
		more = append(more, dir(p))
	}
	wantList(t, call, x.List(), plainWith(l, more...))
}

// finds fails unless Find answers so, with last and without.
func finds(t *testing.T, l []api.Entry, way, last, stay string) {
	t.Helper()
	leads(t, l, rowFind, way, last, api.OK)
	leads(t, l, rowStay, way, stay, api.OK)
}

// lost fails unless Find is refused so, with last and without, and Trail too.
func lost(t *testing.T, l []api.Entry, way string, no api.Errno) {
	t.Helper()
	leads(t, l, rowFind, way, "", no)
	leads(t, l, rowStay, way, "", no)
	trails(t, l, way, no)
}

// trails fails unless Trail answers these paths, or the error no.
func trails(t *testing.T, l []api.Entry, way string, no api.Errno, want ...string) {
	t.Helper()
	call := "Trail of " + strconv.Quote(way[:min(60, len(way))])
	x := treeOf(t, l...)
	got, err := resolve.Trail(x, way)
	just(t, call, err, no)
	if !slices.Equal(got, want) {
		t.Fatalf("%s is %.2000q, not %.2000q", call, got, want)
	}
	wantList(t, call, x.List(), ordered(l...))
}

// agree fails unless all calls over the tree l answer as the second telling does.
func agree(t *testing.T, l []api.Entry, way string) {
	t.Helper()
	for _, r := range []row{rowFind, rowStay, rowMake, rowPlace} {
		call := r.String() + " of " + strconv.Quote(way)
		want := plainTold(l, way, r)
		x := treeOf(t, l...)
		got, err := ask(x, way, r)
		just(t, call, err, want.no)
		if got != want.answer {
			t.Fatalf("%s is %q, not %q, in %v", call, got, want.answer, l)
		}
		wantList(t, call, x.List(), want.tree)
		if r == rowFind {
			trails(t, l, way, want.no, want.trail...)
		}
	}
}

// The chapter's table of examples.
func TestExamples(t *testing.T) {
	l := example()
	finds(t, l, "/a//b/.", "a/b", "a/b")
	finds(t, l, "../../a", "a", "a")
	finds(t, l, "", "", "")
	finds(t, l, "l", "a/b", "l")
	finds(t, l, "l/", "a/b", "l")
	finds(t, l, "l/.", "a/b", "a/b")
	finds(t, l, "l/g", "a/f", "a/b/g")
	finds(t, l, "l/..", "a", "a")
	finds(t, l, "top/f", "a/f", "a/f")
	leads(t, l, rowStay, "top/up", "a/up", api.OK)
	lost(t, l, "a/f/.", api.ErrDir)
	lost(t, l, "a/x", api.ErrNone)
	leads(t, l, rowFind, "o", "", api.ErrLoop)
	leads(t, l, rowStay, "o", "o", api.OK)
	leads(t, l, rowFind, "n", "", api.ErrNone)
	leads(t, l, rowStay, "n", "n", api.OK)
	leads(t, l, rowMake, "l/c/d", "a/b/c/d", api.OK, "a/b/c", "a/b/c/d")
	leads(t, l, rowMake, "top/up/y", "x/y", api.OK, "x", "x/y")
	leads(t, l, rowMake, "a/f", "", api.ErrDir)
	leads(t, l, rowMake, "a/.wh.x", "", api.ErrName)
	leads(t, l, rowMake, "c/../a/f/d", "", api.ErrDir)
	leads(t, l, rowPlace, "n", "none", api.OK)
	leads(t, l, rowPlace, "a/f", "a/f", api.OK)
	leads(t, l, rowPlace, "l", "a/b", api.OK)
	leads(t, l, rowPlace, "q/r", "q/r", api.OK, "q")
	leads(t, l, rowPlace, "q/.", "q", api.OK, "q")
	trails(t, l, "l/g", api.OK, "", "", "a", "a/b", "a/b", "a", "a/f")
}

// P8.1

func TestFindOverPlainPieces(t *testing.T) {
	l := list(dir("a"), dir("a/b"), file("a/b/c", "x"), dir("a.b"), dir("..."), file("...d", ""))
	for _, x := range []struct{ way, want string }{
		{"/", ""}, {"///", ""}, {".", ""}, {"./.", ""}, {"..", ""}, {"/../..", ""}, {"../.", ""},
		{"a", "a"}, {"/a", "a"}, {"a/", "a"}, {"a///", "a"}, {"./a/.", "a"}, {"a/..", ""}, {"a/../..", ""},
		{"a/b/c", "a/b/c"}, {"a/b/c/", "a/b/c"}, {"a/b/c//", "a/b/c"}, {"a/b/../b/c", "a/b/c"}, {"a/b/../../a.b", "a.b"},
		{"../a/../../a/b", "a/b"}, {"...", "..."}, {".../..", ""}, {"...d", "...d"},
	} {
		finds(t, l, x.way, x.want, x.want)
	}
}

func TestFindOfWhatIsNotThere(t *testing.T) {
	l := list(dir("a"), file("a/f", "x"), link("gone", "a/none"), link("deep", "none/../a"))
	for _, way := range []string{
		"b", "a/b", "A", "a/f.", "b/..", "b/../a", "a/b/../f", "b/.", "a/b/", "\x00", "a\x00", "a/\x00", "\xff",
		".wh.a", "a/.wh.f", strings.Repeat("a", 97), strings.Repeat("a", 1<<20), "gone/.", "gone/..", "deep/.", "deep/f",
	} {
		lost(t, l, way, api.ErrNone)
	}
	leads(t, l, rowFind, "gone", "", api.ErrNone)
	leads(t, l, rowFind, "deep", "", api.ErrNone)
	lost(t, nil, "a", api.ErrNone)
	finds(t, nil, "", "", "")
	finds(t, nil, "/..//.", "", "")
}

func TestFindThroughAFile(t *testing.T) {
	l := list(file("f", "x"), link("l", "f"), link("m", "f/."), link("k", "f/"), link("up", "f/.."))
	for _, way := range []string{"f/.", "f/..", "f/x", "f/f", "f/./", "f/../f", "l/.", "l/..", "l/x", "m/x", "k/.", "up/f"} {
		lost(t, l, way, api.ErrDir)
	}
	leads(t, l, rowFind, "m", "", api.ErrDir)
	leads(t, l, rowStay, "m", "m", api.OK)
	leads(t, l, rowFind, "up", "", api.ErrDir)
	finds(t, l, "f/", "f", "f")
	finds(t, l, "l/", "f", "l")
	finds(t, l, "k", "f", "k")
	finds(t, l, "k//", "f", "k")
}

func TestFindAlongLinks(t *testing.T) {
	l := list(dir("a"), dir("a/b"), file("a/b/f", "x"), dir("b"), file("b/f", "y"),
		link("a/near", "b"), link("a/far", "/b"), link("a/b/up", ".."), link("a/b/out", "../../../../.."), link("a/b/top", "/"),
		link("a/b/here", "."), link("a/slashes", "//b//f//"), link("a/twice", "near/here/up/near"), link("a/b/last", "../near"), link("a/over", "/../../b/./f"))
	finds(t, l, "a/near", "a/b", "a/near")
	finds(t, l, "a/near/f", "a/b/f", "a/b/f")
	finds(t, l, "a/far", "b", "a/far")
	finds(t, l, "a/far/f", "b/f", "b/f")
	finds(t, l, "a/far/..", "", "")
	finds(t, l, "a/near/..", "a", "a")
	finds(t, l, "a/b/up", "a", "a/b/up")
	finds(t, l, "a/b/up/b/up/near", "a/b", "a/near")
	finds(t, l, "a/b/out", "", "a/b/out")
	finds(t, l, "a/b/out/b", "b", "b")
	finds(t, l, "a/b/out/../../a", "a", "a")
	finds(t, l, "a/b/top", "", "a/b/top")
	finds(t, l, "a/b/top/a", "a", "a")
	finds(t, l, "a/b/here", "a/b", "a/b/here")
	finds(t, l, "a/b/here/here/here/f", "a/b/f", "a/b/f")
	finds(t, l, "a/slashes", "b/f", "a/slashes")
	finds(t, l, "a/over", "b/f", "a/over")
	finds(t, l, "a/twice/.", "a/b", "a/b")
	leads(t, l, rowFind, "a/twice", "a/b", api.OK)
	finds(t, l, "a/b/last/f", "a/b/f", "a/b/f")
	lost(t, l, "a/slashes/.", api.ErrDir)
	lost(t, l, "a/b/out/f", api.ErrNone)
}

// Without last only a link that is the way's own last piece is stayed at: behind every other one a piece is left, behind those of its target too.
func TestFindStaysAtTheLastLink(t *testing.T) {
	l := list(dir("d"), link("d/one", "two"), link("d/two", "/d/three"), link("d/three", "file/"), file("d/file", "x"), link("in", "d/one"), link("dot", "d/one/."))
	finds(t, l, "in", "d/file", "in")
	leads(t, l, rowStay, "dot", "dot", api.OK)
	leads(t, l, rowFind, "dot", "", api.ErrDir)
	lost(t, l, "in/.", api.ErrDir)
	l = list(dir("d"), link("d/one", "two"), link("d/two", "e"), dir("d/e"), link("in", "."), link("x", "d"), link("y", "x/one"))
	finds(t, l, "in/d/one", "d/e", "d/one")
	finds(t, l, "in/in/in", "", "in")
	finds(t, l, "x/one", "d/e", "d/one")
	finds(t, l, "y/.", "d/e", "d/e")
	finds(t, l, "y/../one//", "d/e", "d/one")
}

// chain is the links a0 to a1, a1 to a2, and so on, n of them, and the file behind them.
func chain(n int) []api.Entry {
	var l []api.Entry
	for i := range n {
		l = append(l, link("a"+strconv.Itoa(i), "a"+strconv.Itoa(i+1)))
	}
	return append(l, file("a"+strconv.Itoa(n), "x"))
}

func TestLinksAreCounted(t *testing.T) {
	finds(t, chain(39), "a0", "a39", "a0")
	finds(t, chain(40), "a0", "a40", "a0")
	leads(t, chain(41), rowFind, "a0", "", api.ErrLoop)
	leads(t, chain(41), rowStay, "a0", "a0", api.OK)
	trails(t, chain(41), "a0", api.ErrLoop)
	leads(t, chain(41), rowPlace, "a0", "", api.ErrLoop)
	leads(t, chain(40), rowPlace, "a0", "a40", api.OK)
	leads(t, chain(41), rowMake, "a0", "", api.ErrLoop)
	leads(t, chain(40), rowMake, "a0", "", api.ErrDir)
	l := list(dir("d"), link("d/here", "."), link("d/root", "/"), link("o", "o"))
	here := func(n int) string { return "d" + strings.Repeat("/here", n) }
	finds(t, l, here(40), "d", "d/here")
	leads(t, l, rowFind, here(41), "", api.ErrLoop)
	leads(t, l, rowStay, here(41), "d/here", api.OK)
	lost(t, l, here(42), api.ErrLoop)
	lost(t, l, here(41)+"/.", api.ErrLoop)
	finds(t, l, here(40)+"/.", "d", "d")
	leads(t, l, rowMake, here(40)+"/x", "d/x", api.OK, "d/x")
	leads(t, l, rowMake, here(41)+"/x", "", api.ErrLoop)
	finds(t, l, strings.Repeat("d/root/", 40), "", "d/root")
	lost(t, l, strings.Repeat("d/root/", 41)+"d", api.ErrLoop)
	for _, r := range []row{rowFind, rowMake, rowPlace} {
		leads(t, l, r, "o", "", api.ErrLoop)
	}
	leads(t, l, rowMake, "new/../o/x", "", api.ErrLoop)
	leads(t, l, rowPlace, "new/../o/x", "", api.ErrLoop)
}

// Each walk counts its own links.
func TestLinksAreCountedAnew(t *testing.T) {
	x := treeOf(t, chain(40)...)
	for range 3 {
		for _, r := range []row{rowFind, rowStay, rowPlace} {
			_, err := ask(x, "a0", r)
			just(t, r.String(), err, api.OK)
		}
		_, err := resolve.Trail(x, "a0")
		just(t, "Trail", err, api.OK)
	}
}

// Which of several errors there is, hangs on which the walk meets first.
func TestTheFirstErrorThatIsMet(t *testing.T) {
	l := list(file("f", "x"), link("o", "o"), dir("d"))
	lost(t, l, "none/o/f/x", api.ErrNone)
	lost(t, l, "o/none", api.ErrLoop)
	lost(t, l, "f/none/o", api.ErrDir)
	lost(t, l, "f/../none", api.ErrDir)
	leads(t, l, rowMake, "f/.wh.x", "", api.ErrDir)
	leads(t, l, rowMake, "new/.wh.x/../../f", "", api.ErrName)
	leads(t, l, rowPlace, "o/.wh.x", "", api.ErrLoop)
	leads(t, l, rowPlace, ".wh.x/../o", "", api.ErrName)
}

// P8.2

func TestMake(t *testing.T) {
	l := list(dirOf("a", 448), dirOf("a/b", 0), file("a/f", "x"), link("l", "a/b"), link("away", "/new/place"), link("a/up", "../side"), link("tail", "a/t/"))
	leads(t, l, rowMake, "", "", api.OK)
	leads(t, l, rowMake, "/", "", api.OK)
	leads(t, l, rowMake, "../..", "", api.OK)
	leads(t, l, rowMake, "a", "a", api.OK)
	leads(t, l, rowMake, "a/b/", "a/b", api.OK)
	leads(t, l, rowMake, "x", "x", api.OK, "x")
	leads(t, l, rowMake, "/x/", "x", api.OK, "x")
	leads(t, l, rowMake, "x/y/z", "x/y/z", api.OK, "x", "x/y", "x/y/z")
	leads(t, l, rowMake, "x/./y/..", "x", api.OK, "x", "x/y")
	leads(t, l, rowMake, "x/../y", "y", api.OK, "x", "y")
	leads(t, l, rowMake, "x/../../y/../x/z", "x/z", api.OK, "x", "y", "x/z")
	leads(t, l, rowMake, "x/x/../x/x", "x/x/x", api.OK, "x", "x/x", "x/x/x")
	leads(t, l, rowMake, "a/x/..", "a", api.OK, "a/x")
	leads(t, l, rowMake, "l", "a/b", api.OK)
	leads(t, l, rowMake, "l/x", "a/b/x", api.OK, "a/b/x")
	leads(t, l, rowMake, "l/../x", "a/x", api.OK, "a/x")
	leads(t, l, rowMake, "away", "new/place", api.OK, "new", "new/place")
	leads(t, l, rowMake, "away/..", "new", api.OK, "new", "new/place")
	leads(t, l, rowMake, "a/up/x", "side/x", api.OK, "side", "side/x")
	leads(t, l, rowMake, "tail", "a/t", api.OK, "a/t")
	leads(t, l, rowMake, "away/../../away/x", "new/place/x", api.OK, "new", "new/place", "new/place/x")
	leads(t, nil, rowMake, "x", "x", api.OK, "x")
	leads(t, nil, rowMake, "\xff/\x01/...", "\xff/\x01/...", api.OK, "\xff", "\xff/\x01", "\xff/\x01/...")
}

// Where a file is at the end, Make is refused, whatever leads to it.
func TestMakeAtAFile(t *testing.T) {
	l := list(dir("a"), file("a/f", "x"), link("l", "a/f"), link("m", "/a/f/"))
	for _, way := range []string{"a/f", "a/f/", "a/f/.", "a/f/..", "a/f/x", "l", "m", "l/x", "m/..", "x/../a/f", "x/y/../../l"} {
		leads(t, l, rowMake, way, "", api.ErrDir)
	}
}

func TestMakeOfNoName(t *testing.T) {
	l := list(dir("a"), link("l", "a/.wh.x"), link("m", "new/"+strings.Repeat("n", 90)))
	long := strings.Repeat("n", 97)
	for _, c := range []string{".wh.", ".wh.x", "\x00", "x\x00y", long, strings.Repeat("n", 1<<20)} {
		for _, way := range []string{c, "a/" + c, c + "/..", "x/y/" + c, "x/" + c + "/y", "x/../" + c + "/../a"} {
			leads(t, l, rowMake, way, "", api.ErrName)
			leads(t, l, rowPlace, way, "", api.ErrName)
		}
	}
	leads(t, l, rowMake, "l", "", api.ErrName)
	leads(t, l, rowPlace, "l", "", api.ErrName)
	leads(t, l, rowPlace, "q/../l/x", "", api.ErrName)
	leads(t, l, rowMake, long[1:], long[1:], api.OK, long[1:])
	leads(t, l, rowMake, ".wh", ".wh", api.OK, ".wh")
	leads(t, l, rowPlace, long[1:], long[1:], api.OK)
}

// steps are the paths of the directories on the way to p, and p.
func steps(p string) []string {
	var all []string
	at := ""
	for name := range path.Pieces(p) {
		at = path.Join(at, name)
		all = append(all, at)
	}
	return all
}

func TestMakeOfNoPath(t *testing.T) {
	deep := strings.TrimSuffix(strings.Repeat("a/", 32), "/")
	leads(t, nil, rowMake, deep, deep, api.OK, steps(deep)...)
	leads(t, nil, rowMake, deep+"/a", "", api.ErrPath)
	leads(t, nil, rowMake, deep+"/a/..", "", api.ErrPath)
	leads(t, nil, rowMake, deep+"/../a", deep, api.OK, steps(deep)...)
	leads(t, nil, rowMake, deep+"/.wh.a", "", api.ErrName)
	leads(t, nil, rowPlace, deep, deep, api.OK, steps(path.Parent(deep))...)
	leads(t, nil, rowPlace, deep+"/a", "", api.ErrPath)
	leads(t, nil, rowPlace, deep+"/a/.", "", api.ErrPath)
	leads(t, nil, rowPlace, deep+"/"+strings.Repeat("n", 97), "", api.ErrName)
	n := strings.Repeat("n", 96)
	leads(t, nil, rowMake, n+"/"+n, n+"/"+n, api.OK, n, n+"/"+n)
	leads(t, nil, rowMake, n+"/"+n+"/"+n, "", api.ErrPath)
	leads(t, nil, rowPlace, n+"/"+n+"/"+n, "", api.ErrPath)
	leads(t, nil, rowPlace, n+"/"+n, n+"/"+n, api.OK, n)
	// Its whiteout can't be split: 156 bytes stand ahead of the second slash.
	wide := strings.Repeat("n", 95) + "/" + strings.Repeat("n", 60) + "/" + strings.Repeat("n", 38)
	leads(t, nil, rowMake, wide, "", api.ErrPath)
	leads(t, nil, rowPlace, wide, "", api.ErrPath)
	leads(t, nil, rowMake, wide[1:], wide[1:], api.OK, steps(wide[1:])...)
	leads(t, nil, rowPlace, wide[1:], wide[1:], api.OK, steps(path.Parent(wide[1:]))...)
	lost(t, nil, deep+"/a", api.ErrNone)
}

// What is there may be led through, where it is as deep as can be.
func TestDeepDirectories(t *testing.T) {
	deep := strings.TrimSuffix(strings.Repeat("a/", 32), "/")
	var l []api.Entry
	for _, p := range steps(deep) {
		l = append(l, dir(p))
	}
	finds(t, l, deep, deep, deep)
	finds(t, l, strings.Repeat(deep+strings.Repeat("/..", 40)+"/", 10), "", "")
	lost(t, l, deep+"/a", api.ErrNone)
	leads(t, l, rowMake, deep+"/a", "", api.ErrPath)
	leads(t, l, rowPlace, deep+"/a", "", api.ErrPath)
}

func TestMakeInAFullTree(t *testing.T) {
	l := full(4096)
	leads(t, l, rowMake, "x", "", api.ErrMany)
	leads(t, l, rowMake, "l/x", "", api.ErrMany)
	leads(t, l, rowMake, ".wh.x", "", api.ErrName)
	leads(t, l, rowMake, "d/e/"+strings.Repeat("n", 96)+"/..", "", api.ErrMany)
	leads(t, l, rowMake, "l/../e", "d/e", api.OK)
	leads(t, l, rowPlace, "x", "x", api.OK)
	leads(t, l, rowPlace, "l/x", "d/e/x", api.OK)
	leads(t, l, rowPlace, "x/y", "", api.ErrMany)
	leads(t, l, rowPlace, "x/.", "", api.ErrMany)
	leads(t, l, rowPlace, ".wh.x/y", "", api.ErrName)
	l = full(4094)
	leads(t, l, rowMake, "x/y", "x/y", api.OK, "x", "x/y")
	leads(t, l, rowMake, "x/y/z", "", api.ErrMany)
	leads(t, l, rowMake, "x/../y/../z", "", api.ErrMany)
	leads(t, l, rowMake, "x/../l/y/../../../z", "", api.ErrMany)
	leads(t, l, rowPlace, "x/y/z", "x/y/z", api.OK, "x", "x/y")
	leads(t, l, rowPlace, "x/y/z/.", "", api.ErrMany)
}

// Very many are made, and taken away again when there is one too many.
func TestMakeOfVeryMany(t *testing.T) {
	var way strings.Builder
	var made []string
	for i := range 4096 {
		name := "n" + strconv.Itoa(100000+i)
		made = append(made, name)
		way.WriteString(name + "/../")
	}
	x := tree.New()
	p, err := resolve.Make(x, way.String())
	just(t, "Make of 4096", err, api.OK)
	var all []api.Entry
	for _, name := range made {
		all = append(all, dir(name))
	}
	wantList(t, "Make of 4096", x.List(), all)
	if p != "" {
		t.Fatalf("Make of 4096 is %q", p)
	}
	x = tree.New()
	p, err = resolve.Make(x, way.String()+"n")
	just(t, "Make of 4097", err, api.ErrMany)
	wantList(t, "Make of 4097", x.List(), nil)
	if entries, bytes := x.Size(); p != "" || entries != 0 || bytes != 0 {
		t.Fatalf("Make of 4097 is %q, and leaves %d, %d", p, entries, bytes)
	}
}

// P8.3

func TestPlace(t *testing.T) {
	l := list(dirOf("a", 448), dirOf("a/b", 0), file("a/f", "x"), link("l", "a/b"), link("lf", "a/f"), link("away", "/new/place"), link("bad", "a/f/x"))
	leads(t, l, rowPlace, "", "", api.OK)
	leads(t, l, rowPlace, "/..", "", api.OK)
	leads(t, l, rowPlace, "a", "a", api.OK)
	leads(t, l, rowPlace, "a/b/", "a/b", api.OK)
	leads(t, l, rowPlace, "a/f", "a/f", api.OK)
	leads(t, l, rowPlace, "a/f/", "a/f", api.OK)
	leads(t, l, rowPlace, "a/f/.", "", api.ErrDir)
	leads(t, l, rowPlace, "x/../a/f/y", "", api.ErrDir)
	leads(t, l, rowPlace, "lf", "a/f", api.OK)
	leads(t, l, rowPlace, "lf/", "a/f", api.OK)
	leads(t, l, rowPlace, "lf/x", "", api.ErrDir)
	leads(t, l, rowPlace, "bad", "", api.ErrDir)
	leads(t, l, rowPlace, "l", "a/b", api.OK)
	leads(t, l, rowPlace, "l/x", "a/b/x", api.OK)
	leads(t, l, rowPlace, "l/x/y", "a/b/x/y", api.OK, "a/b/x")
	leads(t, l, rowPlace, "x", "x", api.OK)
	leads(t, l, rowPlace, "/x//", "x", api.OK)
	leads(t, l, rowPlace, "x/.", "x", api.OK, "x")
	leads(t, l, rowPlace, "x/..", "", api.OK, "x")
	leads(t, l, rowPlace, "x/../x", "x", api.OK, "x")
	leads(t, l, rowPlace, "x/../y", "y", api.OK, "x")
	leads(t, l, rowPlace, "x/y/z", "x/y/z", api.OK, "x", "x/y")
	leads(t, l, rowPlace, "away", "new/place", api.OK, "new")
	leads(t, l, rowPlace, "away/", "new/place", api.OK, "new")
	leads(t, l, rowPlace, "away/x", "new/place/x", api.OK, "new", "new/place")
	leads(t, l, rowPlace, "away/..", "new", api.OK, "new", "new/place")
	leads(t, nil, rowPlace, "x", "x", api.OK)
}

// With an error nothing is left of what was made, and nothing that was there is gone.
func TestErrorsLeaveTheTree(t *testing.T) {
	l := list(dirOf("a", 448), dirOf("a/b", 1), file("a/f", "x"), link("a/l", "/q/w"), link("o", "/z/../o"), link("to", "/m/n/../../a/f/x"))
	for _, way := range []string{
		"x/y/z/../../../a/f/.", "a/x/../b/y/../../f/z", "a/l/e/../../../a/f/e", "o", "x/../o", "to", "p/../to", "x/.wh.y", "x/y/" + strings.Repeat("n", 97),
		"x/../a/l/" + strings.Repeat("d/", 31), "x/x/x/../x/../../../a/f/",
	} {
		x := treeOf(t, l...)
		for range 3 {
			for _, r := range []row{rowMake, rowPlace} {
				want := plainTold(ordered(l...), way, r)
				if want.no == api.OK && r == rowMake {
					t.Fatalf("%q is no error", way)
				}
				if want.no == api.OK {
					continue
				}
				p, err := ask(x, way, r)
				just(t, r.String()+" of "+way, err, want.no)
				wantList(t, r.String()+" of "+way, x.List(), ordered(l...))
				entries, bytes := x.Size()
				if p != "" || entries != 6 || bytes != 1 {
					t.Fatalf("%v of %q: %q beside an error, and %d, %d are left", r, way, p, entries, bytes)
				}
			}
		}
	}
}

// P8.4

func TestTrail(t *testing.T) {
	l := list(dir("a"), dir("a/b"), file("a/b/f", "x"), link("a/far", "/a/b"), link("a/near", "./b//"), link("top", "/"), link("f", "a/near/f"))
	trails(t, l, "", api.OK, "")
	trails(t, l, "//", api.OK, "")
	trails(t, l, ".", api.OK, "", "")
	trails(t, l, "./../.", api.OK, "", "", "", "")
	trails(t, l, "a", api.OK, "", "a")
	trails(t, l, "/a//b/./../", api.OK, "", "a", "a/b", "a/b", "a")
	trails(t, l, "a/b/f", api.OK, "", "a", "a/b", "a/b/f")
	trails(t, l, "a/far", api.OK, "", "a", "", "a", "a/b")
	trails(t, l, "a/near/..", api.OK, "", "a", "a", "a", "a/b", "a")
	trails(t, l, "top", api.OK, "", "")
	trails(t, l, "a/../top/a", api.OK, "", "a", "", "", "a")
	trails(t, l, "f", api.OK, "", "", "a", "a", "a", "a/b", "a/b/f")
	trails(t, l, "f/.", api.ErrDir)
	trails(t, l, "a/x", api.ErrNone)
	trails(t, nil, "", api.OK, "")
}

// P8.8

// As long as a Trail can be: 40 links, with 50 pieces each.
func TestTheLongestTrail(t *testing.T) {
	var l []api.Entry
	name := func(i int) string { return string(rune('A' + i)) }
	for i := range 40 {
		l = append(l, link(name(i), strings.Repeat("./", 49)+name(i+1)))
	}
	l = append(l, dir(name(40)))
	x := treeOf(t, l...)
	got, err := resolve.Trail(x, name(0))
	just(t, "Trail", err, api.OK)
	if len(got) != 2+40*50 || got[len(got)-1] != name(40) {
		t.Fatalf("a Trail of %d paths, to %q", len(got), got[len(got)-1])
	}
	for _, p := range got[:len(got)-1] {
		if p != "" {
			t.Fatalf("the Trail comes by %q", p)
		}
	}
}

// W11, R1: ways of all sorts end, and no answer is outside of the root.
func TestLongWaysEnd(t *testing.T) {
	l := list(dir("a"), dir("a/b"), link("a/b/up", "../.."))
	const n = 1 << 17
	x := treeOf(t, l...)
	for _, w := range []struct {
		way   string
		taken int
	}{
		{strings.Repeat("/", n), 0}, {strings.Repeat("./", n), n}, {strings.Repeat("../", n), n}, {strings.Repeat("a/b/../../", n), 4 * n},
		{strings.Repeat("a/b/up/", 40) + strings.Repeat("a/../", n), 40*5 + 2*n},
	} {
		for _, r := range []row{rowFind, rowMake, rowPlace} {
			p, err := ask(x, w.way, r)
			just(t, r.String(), err, api.OK)
			if p != "" {
				t.Fatalf("%v leads to %q", r, p)
			}
		}
		trail, err := resolve.Trail(x, w.way)
		just(t, "Trail", err, api.OK)
		if len(trail) != 1+w.taken {
			t.Fatalf("a Trail of %d paths", len(trail))
		}
		wantList(t, "behind all", x.List(), ordered(l...))
	}
	_, err := resolve.Find(x, strings.Repeat("a/", n), true)
	just(t, "Find", err, api.ErrNone)
	_, err = resolve.Make(x, strings.Repeat("a/", n))
	just(t, "Make", err, api.ErrPath)
	wantList(t, "behind Make", x.List(), ordered(l...))
}

// R4

func TestTrailsAreNewMemory(t *testing.T) {
	x := treeOf(t, example()...)
	want := []string{"", "", "a", "a/b", "a/b", "a", "a/f"}
	first, _ := resolve.Trail(x, "l/g")
	second, _ := resolve.Trail(x, "l/g")
	for i := range first[:cap(first)] {
		first[:cap(first)][i] = "spoilt"
	}
	third, _ := resolve.Trail(x, "l/g")
	if !slices.Equal(second, want) || !slices.Equal(third, want) {
		t.Fatalf("Trails share memory: %q, %q", second, third)
	}
}

// What is said of a tree holds for it as it is when the call is made.
func TestTheTreeAsItIs(t *testing.T) {
	x := treeOf(t, list(dir("a"), link("l", "a"))...)
	find := func(want string, no api.Errno) {
		t.Helper()
		p, err := resolve.Find(x, "l/f", true)
		just(t, "Find", err, no)
		if p != want {
			t.Fatalf("Find is %q, not %q", p, want)
		}
	}
	find("", api.ErrNone)
	just(t, "Put", x.Put(file("a/f", "")), api.OK)
	find("a/f", api.OK)
	just(t, "Put", x.Put(link("l", "b")), api.OK)
	find("", api.ErrNone)
	p, err := resolve.Make(x, "l")
	just(t, "Make", err, api.OK)
	find("", api.ErrNone)
	just(t, "Put", x.Put(file(p+"/f", "")), api.OK)
	find("b/f", api.OK)
	_, err = x.Take("b")
	just(t, "Take", err, api.OK)
	find("", api.ErrNone)
}

// P8.5 to P8.8, and all of the above, over trees and ways of all sorts.

func pick(r *rand.Rand, from ...string) string { return from[r.Intn(len(from))] }

// someWay is a way of few names, so that it meets what is there.
func someWay(r *rand.Rand) string {
	var pieces []string
	for range 1 + r.Intn(5) {
		pieces = append(pieces, pick(r, "a", "b", "c", "l", "m", "o", "a", "b", "l", "m", "..", "..", ".", "", "new", pick(r, ".wh.a", "\x00", "...", "z")))
	}
	way := strings.Join(pieces, "/")
	if r.Intn(4) == 0 {
		way = "/" + way
	}
	if r.Intn(6) == 0 {
		way += "/"
	}
	return way
}

// someTarget is a way that may be a link's.
func someTarget(r *rand.Rand) string {
	for {
		if s := someWay(r); s != "" && !strings.Contains(s, "\x00") {
			return s
		}
	}
}

func someTree(r *rand.Rand) []api.Entry {
	x := tree.New()
	dirs := []string{""}
	for range 3 + r.Intn(18) {
		p := path.Join(dirs[r.Intn(len(dirs))], pick(r, "a", "b", "c", "l", "m", "o"))
		e := []api.Entry{dirOf(p, r.Intn(4096)), dirOf(p, r.Intn(4096)), dirOf(p, r.Intn(4096)), file(p, "x"), link(p, someTarget(r)), link(p, someTarget(r))}[r.Intn(6)]
		// What is refused is left out: a path that is taken already, by another kind.
		if x.Put(e) == nil && e.Kind == api.KDir {
			dirs = append(dirs, p)
		}
	}
	return x.List()
}

func TestAgainstTheSecondTelling(t *testing.T) {
	r := rand.New(rand.NewSource(8))
	met := map[row]map[api.Errno]int{rowFind: {}, rowStay: {}, rowMake: {}, rowPlace: {}}
	for range 4000 {
		l := someTree(r)
		for range 8 {
			way := someWay(r)
			agree(t, l, way)
			for w := range met {
				met[w][plainTold(l, way, w).no]++
			}
		}
	}
	for w, errs := range map[row][]api.Errno{
		rowFind: {api.OK, api.ErrNone, api.ErrDir, api.ErrLoop}, rowStay: {api.OK, api.ErrNone, api.ErrDir, api.ErrLoop},
		rowMake: {api.OK, api.ErrDir, api.ErrLoop, api.ErrName}, rowPlace: {api.OK, api.ErrDir, api.ErrLoop, api.ErrName},
	} {
		for _, no := range errs {
			if met[w][no] < 20 {
				t.Errorf("%v of %v was met %d times", no, w, met[w][no])
			}
		}
	}
}

// P8.5
func TestAnswersOfFindAreThere(t *testing.T) {
	r := rand.New(rand.NewSource(85))
	for range 20000 {
		l := someTree(r)
		x := treeOf(t, l...)
		way := someWay(r)
		for _, last := range []bool{true, false} {
			p, err := resolve.Find(x, way, last)
			if err != nil {
				continue
			}
			e, there := x.Get(p)
			if p != "" && !there || last && e.Kind == api.KLink {
				t.Fatalf("Find(%q, %v) is %q, where %v is", way, last, p, e)
			}
			again, err := resolve.Find(x, p, false)
			if err != nil || again != p {
				t.Fatalf("Find of the answer %q is %q, %v", p, again, err)
			}
			again, err = resolve.Find(x, p, true)
			if e.Kind != api.KLink && (err != nil || again != p) {
				t.Fatalf("Find of the answer %q with last is %q, %v", p, again, err)
			}
		}
	}
}

// onlyMore fails unless the tree has what was there, as it was, and besides only directories with the mode 493.
func onlyMore(t *testing.T, call string, x *tree.Tree, before []api.Entry) {
	t.Helper()
	var old []api.Entry
	for _, e := range x.List() {
		if slices.Contains(before, e) {
			old = append(old, e)
		} else if e.Kind != api.KDir || e.Mode != 493 {
			t.Fatalf("%s: %v is new", call, e)
		}
	}
	wantList(t, call+": of what was there", old, before)
}

// P8.6
func TestBehindMake(t *testing.T) {
	r := rand.New(rand.NewSource(86))
	made := 0
	for range 20000 {
		l := someTree(r)
		x := treeOf(t, l...)
		way := someWay(r)
		call := "Make of " + strconv.Quote(way)
		p, err := resolve.Make(x, way)
		onlyMore(t, call, x, l)
		behind := x.List()
		if err != nil {
			wantList(t, call, behind, l)
			continue
		}
		made += len(behind) - len(l)
		if e, _ := x.Get(p); p != "" && e.Kind != api.KDir {
			t.Fatalf("%s is %q, where %v is", call, p, e)
		}
		found, err := resolve.Find(x, way, true)
		if err != nil || found != p {
			t.Fatalf("%s is %q; then Find is %q, %v", call, p, found, err)
		}
		again, err := resolve.Make(x, way)
		if err != nil || again != p {
			t.Fatalf("%s is %q; then %q, %v", call, p, again, err)
		}
		wantList(t, call+" once more", x.List(), behind)
	}
	if made < 1000 {
		t.Errorf("only %d were made", made)
	}
}

// P8.6
func TestBehindPlace(t *testing.T) {
	r := rand.New(rand.NewSource(87))
	free := 0
	for range 20000 {
		l := someTree(r)
		x := treeOf(t, l...)
		way := someWay(r)
		call := "Place of " + strconv.Quote(way)
		p, err := resolve.Place(x, way)
		onlyMore(t, call, x, l)
		if err != nil {
			wantList(t, call, x.List(), l)
			continue
		}
		if e, _ := x.Get(path.Parent(p)); path.Parent(p) != "" && e.Kind != api.KDir {
			t.Fatalf("%s is %q, where the parent is %v", call, p, e)
		}
		if _, there := x.Get(p); there || p == "" {
			continue
		}
		free++
		just(t, "Put", x.Put(file(p, "new")), api.OK)
		found, err := resolve.Find(x, way, true)
		if err != nil || found != p {
			t.Fatalf("%s is %q; with a file there Find is %q, %v", call, p, found, err)
		}
	}
	if free < 1000 {
		t.Errorf("only %d places were free", free)
	}
}

// P8.7
func TestWaysGoOn(t *testing.T) {
	r := rand.New(rand.NewSource(88))
	held := 0
	for range 40000 {
		x := treeOf(t, someTree(r)...)
		a, b := someWay(r), someWay(r)
		if len(plainPieces(b)) == 0 {
			continue
		}
		for _, last := range []bool{true, false} {
			q, err := resolve.Find(x, a+"/"+b, last)
			if err != nil {
				continue
			}
			held++
			p, err := resolve.Find(x, a, true)
			just(t, "Find of the beginning "+a, err, api.OK)
			rest, err := resolve.Find(x, p+"/"+b, last)
			if err != nil || rest != q {
				t.Fatalf("Find of %q / %q is %q, but from %q on it is %q, %v", a, b, q, p, rest, err)
			}
		}
	}
	if held < 1000 {
		t.Errorf("only %d ways led on", held)
	}
}

// P8.8
func TestTrailsOfAllSorts(t *testing.T) {
	r := rand.New(rand.NewSource(89))
	for range 20000 {
		l := someTree(r)
		x := treeOf(t, l...)
		way := someWay(r)
		p, err := resolve.Find(x, way, true)
		trail, refused := resolve.Trail(x, way)
		if (err == nil) != (refused == nil) || err != nil && !errors.Is(refused, err) {
			t.Fatalf("Trail of %q: %v, but Find: %v", way, refused, err)
		}
		if err != nil {
			if len(trail) != 0 {
				t.Fatalf("Trail of %q: %q beside an error", way, trail)
			}
			continue
		}
		links := plainTold(l, way, rowFind).links
		if pieces := len(plainPieces(way)); len(trail) < 1+pieces || len(trail) > 1+pieces+50*links || links > 40 {
			t.Fatalf("Trail of %q, with %d links, has %d paths", way, links, len(trail))
		}
		if trail[0] != "" || trail[len(trail)-1] != p {
			t.Fatalf("Trail of %q is %q, but Find %q", way, trail, p)
		}
		for i, at := range trail {
			e, there := x.Get(at)
			last := i == len(trail)-1
			if at != "" && !there || e.Kind == api.KLink || !last && e.Kind == api.KFile {
				t.Fatalf("Trail of %q comes by %q, where %v is", way, at, e)
			}
		}
		wantList(t, "behind Trail", x.List(), l)
	}
}
