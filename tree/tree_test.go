package tree_test

import (
	"errors"
	"math"
	"math/rand"
	"slices"
	"strconv"
	"strings"
	"testing"

	"strata/api"
	"strata/path"
	"strata/tree"
)

func dir(p string) api.Entry { return api.Entry{Path: p, Kind: api.KDir, Mode: 493} }

func dirOf(p string, mode int) api.Entry { return api.Entry{Path: p, Kind: api.KDir, Mode: mode} }

func file(p, data string) api.Entry {
	return api.Entry{Path: p, Kind: api.KFile, Mode: 420, Data: data}
}

func link(p, to string) api.Entry {
	return api.Entry{Path: p, Kind: api.KLink, Mode: 511, Link: to}
}

func list(l ...api.Entry) []api.Entry { return l }

// files are n files without Data, in order.
func files(n int) []api.Entry {
	var l []api.Entry
	for i := range n {
		l = append(l, file("f"+strconv.Itoa(100000+i), ""))
	}
	return l
}

// sizes are files of so many bytes, in order.
func sizes(n ...int) []api.Entry {
	l := files(len(n))
	for i := range l {
		l[i].Data = strings.Repeat("x", n[i])
	}
	return l
}

func repeated(n, times int) []int { return slices.Repeat([]int{n}, times) }

// onlyError fails unless err is just the number no, nil for api.OK.
func onlyError(t *testing.T, call string, err error, no api.Errno) {
	t.Helper()
	if no == api.OK {
		if err != nil {
			t.Fatalf("%s is refused: %v", call, err)
		}
		return
	}
	for other := api.ErrArg; other <= api.ErrEmpty; other++ {
		if errors.Is(err, other) != (other == no) {
			t.Fatalf("%s: the error is %v, not %v", call, err, no)
		}
	}
}

// placeless fails unless err is just the number no, and tells no place.
func placeless(t *testing.T, call string, err error, no api.Errno) {
	t.Helper()
	onlyError(t, call, err, no)
	var fault api.Fault
	if errors.As(err, &fault) {
		t.Fatalf("%s: the error tells a place: %+v", call, fault)
	}
}

// placed fails unless err is just the number no, at the entry at.
func placed(t *testing.T, call string, err error, no api.Errno, at int) {
	t.Helper()
	onlyError(t, call, err, no)
	if no == api.OK {
		return
	}
	var fault api.Fault
	if !errors.As(err, &fault) {
		t.Fatalf("%s: %v tells no place", call, err)
	}
	if fault != (api.Fault{No: no, At: at}) {
		t.Fatalf("%s: the fault is %+v, not %v at %d", call, fault, no, at)
	}
}

// refused fails unless Check, Of and Sub say the same of l; Check and Of must not differ, nor may Sub say more.
func refused(t *testing.T, call string, l []api.Entry, no api.Errno, at int) {
	t.Helper()
	placed(t, "Check of "+call, tree.Check(l), no, at)
	x, err := tree.Of(l)
	placed(t, "Of of "+call, err, no, at)
	if (x == nil) != (no != api.OK) {
		t.Fatalf("Of of %s: the tree is %v beside %v", call, x, err)
	}
	for _, p := range []string{"", "no such path"} {
		sub, err := tree.Sub(l, p)
		if no == api.OK {
			continue
		}
		placed(t, "Sub of "+call, err, no, at)
		if len(sub) != 0 {
			t.Fatalf("Sub of %s: %d entries beside an error", call, len(sub))
		}
	}
}

func wantList(t *testing.T, call string, got, want []api.Entry) {
	t.Helper()
	if !slices.Equal(got, want) {
		t.Fatalf("%s is %.2000v, not %.2000v", call, got, want)
	}
}

// whole fails unless the tree has just these entries, by all that tells them.
func whole(t *testing.T, call string, x *tree.Tree, want []api.Entry) {
	t.Helper()
	got := x.List()
	wantList(t, call+": List", got, want)
	onlyError(t, call+": Check of List", tree.Check(got), api.OK)
	entries, bytes := x.Size()
	if entries != len(want) || bytes != int64(plainBytes(want)) {
		t.Fatalf("%s: Size is %d, %d, not %d, %d", call, entries, bytes, len(want), plainBytes(want))
	}
	wantList(t, call+": Below of the root", slices.Collect(x.Below("")), want)
}

func treeOf(t *testing.T, l ...api.Entry) *tree.Tree {
	t.Helper()
	x, err := tree.Of(l)
	onlyError(t, "Of", err, api.OK)
	whole(t, "Of", x, l)
	return x
}

// wrongOne is an entry that is wrong by itself.
type wrongOne struct {
	call  string
	entry api.Entry
	no    api.Errno
}

// wrongOnes are entries that are wrong by themselves. Of those that are wrong in two ways the first way counts.
func wrongOnes() []wrongOne {
	big := strings.Repeat("x", 1<<20+1)
	deep := strings.Repeat("a/", 32) + "a"
	none := api.Entry{Kind: api.KNone, Path: "..", Mode: -1, Data: big, Link: "\x00"}
	return []wrongOne{
		{"the zero entry", api.Entry{}, api.ErrKind},
		{"no kind", api.Entry{Path: "a", Mode: 420}, api.ErrKind},
		{"the kind 4", api.Entry{Path: "a", Kind: 4, Mode: 420}, api.ErrKind},
		{"the kind -1", api.Entry{Path: "a", Kind: -1, Mode: 420}, api.ErrKind},
		{"a great kind", api.Entry{Path: "a", Kind: math.MaxInt, Mode: 420}, api.ErrKind},
		{"a small kind", api.Entry{Path: "a", Kind: math.MinInt, Mode: 420}, api.ErrKind},
		{"all wrong", none, api.ErrKind},
		{"a file at the root", file("", "x"), api.ErrRoot},
		{"a directory at the root", dir(""), api.ErrRoot},
		{"a link at the root", link("", "x"), api.ErrRoot},
		{"the root, and no mode", dirOf("", 4096), api.ErrRoot},
		{"the path ..", dir(".."), api.ErrName},
		{"the path /a", dir("/a"), api.ErrName},
		{"the path a/", dir("a/"), api.ErrName},
		{"the path a//b", dir("a//b"), api.ErrName},
		{"a whiteout", file(".wh.a", ""), api.ErrName},
		{"a byte 0 in a name", file("a\x00", ""), api.ErrName},
		{"a long name", file(strings.Repeat("a", 97), ""), api.ErrName},
		{"no name, and no mode", dirOf(".", -1), api.ErrName},
		{"a deep path", file(deep, ""), api.ErrPath},
		{"a deep path with .. in it", file(deep+"/..", ""), api.ErrName},
		{"a deep path, and no mode", api.Entry{Path: deep, Kind: api.KLink, Mode: 420}, api.ErrPath},
		{"a file's mode -1", api.Entry{Path: "a", Kind: api.KFile, Mode: -1}, api.ErrMode},
		{"a file's mode 4096", api.Entry{Path: "a", Kind: api.KFile, Mode: 4096}, api.ErrMode},
		{"a directory's mode -1", dirOf("a", -1), api.ErrMode},
		{"a directory's mode 4096", dirOf("a", 4096), api.ErrMode},
		{"a great mode", dirOf("a", math.MaxInt), api.ErrMode},
		{"a small mode", dirOf("a", math.MinInt), api.ErrMode},
		{"a link's mode 420", api.Entry{Path: "a", Kind: api.KLink, Mode: 420, Link: "b"}, api.ErrMode},
		{"a link's mode 0", api.Entry{Path: "a", Kind: api.KLink, Link: "b"}, api.ErrMode},
		{"a link's mode 510", api.Entry{Path: "a", Kind: api.KLink, Mode: 510, Link: "b"}, api.ErrMode},
		{"a link's mode 512", api.Entry{Path: "a", Kind: api.KLink, Mode: 512, Link: "b"}, api.ErrMode},
		{"a link's mode 4096", api.Entry{Path: "a", Kind: api.KLink, Mode: 4096, Link: "b"}, api.ErrMode},
		{"no mode, and no target", api.Entry{Path: "a", Kind: api.KLink, Mode: 420}, api.ErrMode},
		{"no mode, and much Data", api.Entry{Path: "a", Kind: api.KFile, Mode: 4096, Data: big}, api.ErrMode},
		{"no mode, and a directory's Data", api.Entry{Path: "a", Kind: api.KDir, Mode: 4096, Data: "x"}, api.ErrMode},
		{"no target", link("a", ""), api.ErrLink},
		{"a target of 101 bytes", link("a", strings.Repeat("x", 101)), api.ErrLink},
		{"a target that is a byte 0", link("a", "\x00"), api.ErrLink},
		{"a byte 0 ahead in a target", link("a", "\x00b"), api.ErrLink},
		{"a byte 0 at a target's end", link("a", "b\x00"), api.ErrLink},
		{"no target, and a link's Data", api.Entry{Path: "a", Kind: api.KLink, Mode: 511, Data: "x"}, api.ErrLink},
		{"much Data", file("a", big), api.ErrMany},
		{"much Data, and a file's target", api.Entry{Path: "a", Kind: api.KFile, Mode: 420, Data: big, Link: "x"}, api.ErrMany},
		{"a directory's Data", api.Entry{Path: "a", Kind: api.KDir, Mode: 493, Data: "x"}, api.ErrForm},
		{"a directory's much Data", api.Entry{Path: "a", Kind: api.KDir, Mode: 493, Data: big}, api.ErrForm},
		{"a link's Data", api.Entry{Path: "a", Kind: api.KLink, Mode: 511, Data: "x", Link: "b"}, api.ErrForm},
		{"a link's much Data", api.Entry{Path: "a", Kind: api.KLink, Mode: 511, Data: big, Link: "b"}, api.ErrForm},
		{"a directory's target", api.Entry{Path: "a", Kind: api.KDir, Mode: 493, Link: "b"}, api.ErrForm},
		{"a directory's long target", api.Entry{Path: "a", Kind: api.KDir, Mode: 493, Link: big}, api.ErrForm},
		{"a file's target", api.Entry{Path: "a", Kind: api.KFile, Mode: 420, Link: "b"}, api.ErrForm},
		{"a file's target that is none", api.Entry{Path: "a", Kind: api.KFile, Mode: 420, Data: "x", Link: "\x00"}, api.ErrForm},
	}
}

// rightOnes are entries at the edges of what is right.
func rightOnes() []api.Entry {
	return []api.Entry{
		dirOf("a", 0),
		dirOf("a", 4095),
		{Path: "a", Kind: api.KFile},
		{Path: "a", Kind: api.KFile, Mode: 4095, Data: "\x00\xff"},
		{Path: "a", Kind: api.KFile, Mode: 420, Data: strings.Repeat("x", 1<<20)},
		{Path: strings.Repeat("a", 96), Kind: api.KFile, Mode: 511},
		link("a", "b"),
		link("a", "/"),
		link("a", "../../\xff//"),
		link("a", strings.Repeat("x", 100)),
		link("...", "a"),
	}
}

// P7.1

func TestCheckExamples(t *testing.T) {
	refused(t, "none", nil, api.OK, 0)
	refused(t, "an empty list", list(), api.OK, 0)
	refused(t, "a tree", list(dir("a"), file("a/b", "x"), link("a.b", "../a"), file("b", "")), api.OK, 0)
	refused(t, "a.b ahead of a/b", list(dir("a"), file("a.b", "x"), file("a/b", "y")), api.ErrArg, 2)
	refused(t, "one path twice", list(file("a", "x"), file("a", "x")), api.ErrTwice, 1)
	refused(t, "below a file", list(file("a", "x"), dir("a/b")), api.ErrDir, 1)
	refused(t, "no parent", list(dir("a"), dir("b/c")), api.ErrNone, 1)
	refused(t, "the root", list(dir("a"), file("", "x")), api.ErrRoot, 1)
}

func TestCheckOfOneEntry(t *testing.T) {
	for _, e := range rightOnes() {
		refused(t, "an edge "+e.Path, list(e), api.OK, 0)
	}
	for _, w := range wrongOnes() {
		refused(t, w.call, list(w.entry), w.no, 0)
		if no := plainWrong(w.entry); no != w.no {
			t.Errorf("%s: the second telling says %v", w.call, no)
		}
	}
}

// What is wrong with an entry by itself goes ahead of where it stands, and the first wrong entry ahead of later ones.
func TestCheckTellsTheFirstWrongEntry(t *testing.T) {
	for _, w := range wrongOnes() {
		refused(t, w.call+" behind others", list(dir("a"), file("a/b", "x"), w.entry), w.no, 2)
		refused(t, w.call+" behind a later path", list(dir("z"), file("z/b", "x"), w.entry, dir("a")), w.no, 2)
		refused(t, w.call+" behind one that is there twice", list(dir("a"), dir("a"), w.entry), api.ErrTwice, 1)
		refused(t, w.call+" behind one out of order", list(dir("b"), dir("a"), w.entry), api.ErrArg, 1)
		refused(t, w.call+" as the entry 4097", append(files(4096), w.entry), w.no, 4096)
	}
}

func TestCheckOrder(t *testing.T) {
	bad := dirOf("a", 4096)
	for _, x := range []struct {
		call string
		l    []api.Entry
		no   api.Errno
		at   int
	}{
		{"no mode, twice there", list(dir("a"), bad), api.ErrMode, 1},
		{"twice, but of other kinds", list(dir("a"), link("a", "b")), api.ErrTwice, 1},
		{"a path again, another between", list(dir("a"), dir("b"), dir("a")), api.ErrArg, 2},
		{"a path again, one below it between", list(dir("a"), dir("a/b"), dir("a")), api.ErrArg, 2},
		{"out of order, without a parent", list(dir("b"), dir("a/c")), api.ErrArg, 1},
		{"out of order, below a file", list(file("a", ""), dir("b"), dir("a/c")), api.ErrArg, 2},
		{"out of order below", list(dir("a"), dir("a/c"), dir("a/b")), api.ErrArg, 2},
		{"a directory behind what is below it", list(dir("a/b"), dir("a")), api.ErrNone, 0},
		{"the parent's parent alone", list(dir("a"), dir("a/b/c")), api.ErrNone, 1},
		{"a parent that is no path of one name", list(dir("a"), dir("a/b"), dir("a/b/c/d")), api.ErrNone, 2},
		{"the parent is a name that begins so", list(dir("a"), dir("ab/c")), api.ErrNone, 1},
		{"below a file's place that isn't there", list(file("a", ""), dir("a/b/c")), api.ErrNone, 1},
		{"below a link", list(link("a", "b"), dir("a/b")), api.ErrDir, 1},
		{"below a link to a directory", list(dir("b"), link("c", "b"), dir("c/d")), api.ErrDir, 2},
		{"below a file, deep", list(dir("a"), file("a/b", ""), link("a/b/c", "x")), api.ErrDir, 2},
		{"bytes of names", list(dir("a"), dir("a/b"), dir("a!"), dir("b"), dir("\xff")), api.OK, 0},
		{"small letters ahead of great ones", list(dir("a"), dir("A")), api.ErrArg, 1},
		{"a longer name first", list(dir("ab"), dir("a")), api.ErrArg, 1},
	} {
		refused(t, x.call, x.l, x.no, x.at)
	}
}

func TestCheckCountsEntries(t *testing.T) {
	refused(t, "4096 files", files(4096), api.OK, 0)
	refused(t, "4097 files", files(4097), api.ErrMany, 4096)
	refused(t, "5000 files", files(5000), api.ErrMany, 4096)
	full := files(4096)
	refused(t, "the entry 4097 twice", append(slices.Clone(full), full[4095]), api.ErrTwice, 4096)
	refused(t, "the entry 4097 out of order", append(slices.Clone(full), dir("a")), api.ErrArg, 4096)
	refused(t, "the entry 4097 without a parent", append(slices.Clone(full), dir("z/a")), api.ErrNone, 4096)
	refused(t, "the entry 4097 below a file", append(slices.Clone(full), dir(full[4095].Path+"/a")), api.ErrDir, 4096)
	mixed := append(list(dir("a"), link("a/b", "c")), files(4094)...)
	refused(t, "4096 entries of all kinds", mixed, api.OK, 0)
	refused(t, "4097 entries of all kinds", append(mixed, dir("z")), api.ErrMany, 4096)
}

func TestCheckCountsBytes(t *testing.T) {
	refused(t, "2^24 bytes", sizes(repeated(1<<20, 16)...), api.OK, 0)
	refused(t, "2^24 bytes, and a file without", sizes(append(repeated(1<<20, 16), 0)...), api.OK, 0)
	refused(t, "2^24 bytes, and one", sizes(append(repeated(1<<20, 16), 1)...), api.ErrMany, 16)
	refused(t, "one, and 2^24 bytes", sizes(append([]int{1}, repeated(1<<20, 17)...)...), api.ErrMany, 16)
	almost := sizes(append(repeated(1<<20, 15), 1<<20-1)...)
	refused(t, "2^24 bytes but one", append(slices.Clone(almost), file("g", "x")), api.OK, 0)
	refused(t, "2^24 bytes, then a link", append(slices.Clone(almost), file("g", "x"), link("h", "abc")), api.OK, 0)
	refused(t, "2^24 bytes and one", append(slices.Clone(almost), file("g", "xy")), api.ErrMany, 16)
	refused(t, "2^24 bytes and one, twice there", append(slices.Clone(almost), almost[15]), api.ErrTwice, 16)
	refused(t, "2^24 bytes and one, below a file", append(slices.Clone(almost), file(almost[15].Path+"/a", "xy")), api.ErrDir, 16)
}

// P7.2

func TestSubExamples(t *testing.T) {
	l := list(dir("a"), file("a/b", "x"), dir("a/c"), file("b", "y"))
	for _, x := range []struct {
		p    string
		want []api.Entry
		no   api.Errno
	}{
		{"a", list(file("b", "x"), dir("c")), api.OK},
		{"", l, api.OK},
		{"a/c", nil, api.OK},
		{"b", nil, api.ErrDir},
		{"a/b", nil, api.ErrDir},
		{"z", nil, api.ErrNone},
		{"a/z", nil, api.ErrNone},
		{"b/z", nil, api.ErrNone},
	} {
		got, err := tree.Sub(l, x.p)
		placeless(t, "Sub at "+x.p, err, x.no)
		wantList(t, "Sub at "+x.p, got, x.want)
	}
}

func TestSubOfNoPath(t *testing.T) {
	l := list(dir("a"), dir("a/b"), file("a/b/c", "x"), link("a/l", "b"), dir("aa"), file("aa/d", "y"))
	for _, p := range []string{"/", "/a", "a/", "a//b", ".", "..", "a/.", "a/../a", "./a", "a/b/", "\x00", "A", ".wh.a", strings.Repeat("a/", 100000), strings.Repeat("x", 1<<20)} {
		got, err := tree.Sub(l, p)
		placeless(t, "Sub of no path", err, api.ErrNone)
		if len(got) != 0 {
			t.Errorf("Sub at %.40q: %v beside an error", p, got)
		}
	}
	got, err := tree.Sub(l, "a/l")
	placeless(t, "Sub at a link", err, api.ErrDir)
	wantList(t, "Sub at a link", got, nil)
	got, err = tree.Sub(l, "a")
	placeless(t, "Sub at a", err, api.OK)
	wantList(t, "Sub at a", got, list(dir("b"), file("b/c", "x"), link("l", "b")))
	got, err = tree.Sub(nil, "")
	placeless(t, "Sub of none", err, api.OK)
	wantList(t, "Sub of none", got, nil)
	_, err = tree.Sub(nil, "a")
	placeless(t, "Sub of none at a", err, api.ErrNone)
}

// What is wrong with the entries goes ahead of what is wrong with the place.
func TestSubOfNoTree(t *testing.T) {
	l := list(file("a", "x"), dir("b"), dir("b"))
	for _, p := range []string{"", "a", "b", "z"} {
		got, err := tree.Sub(l, p)
		placed(t, "Sub at "+p, err, api.ErrTwice, 2)
		wantList(t, "Sub at "+p, got, nil)
	}
}

// P7.3

func TestNew(t *testing.T) {
	x := tree.New()
	whole(t, "New", x, nil)
	onlyError(t, "Put", x.Put(dir("a")), api.OK)
	whole(t, "New behind a Put", x, list(dir("a")))
	whole(t, "another New", tree.New(), nil)
}

func TestOf(t *testing.T) {
	treeOf(t)
	treeOf(t, dir("a"), file("a/b", "x"), link("a.b", "../a"), file("b", ""))
	treeOf(t, files(4096)...)
	treeOf(t, sizes(repeated(1<<20, 16)...)...)
	for _, e := range rightOnes() {
		treeOf(t, e)
	}
	var deep []api.Entry
	for n := range 32 {
		deep = append(deep, dir(strings.Repeat("a/", n)+"a"))
	}
	treeOf(t, deep...)
}

// P7.4

func TestGet(t *testing.T) {
	l := list(dirOf("a", 448), file("a/b", "x"), dir("a/c"), file("a/c/d", "y"), link("a.b", "../a"), file("b", ""))
	x := treeOf(t, l...)
	for _, e := range l {
		got, there := x.Get(e.Path)
		if got != e || !there {
			t.Errorf("Get(%q) is %v, %v", e.Path, got, there)
		}
	}
	for _, p := range []string{"", "/", "/a", "a/", "a//b", "a/b/", "a/b/c", "a/./b", ".", "..", "a/..", "a/c/d/e", "A", "c", "d", "a/d", "a.b/b", "a\x00", strings.Repeat("a/", 1<<20)} {
		got, there := x.Get(p)
		if got != (api.Entry{}) || there {
			t.Errorf("Get(%.40q) is %v, %v", p, got, there)
		}
	}
	if got, there := tree.New().Get(""); got != (api.Entry{}) || there {
		t.Errorf("the root is an entry: %v, %v", got, there)
	}
}

// P7.5

func TestPutExamples(t *testing.T) {
	x := treeOf(t, dir("a"), file("a/b", "x"))
	placeless(t, "Put without a parent", x.Put(file("a/c/d", "y")), api.ErrNone)
	placeless(t, "Put below a file", x.Put(file("a/b/c", "y")), api.ErrDir)
	placeless(t, "Put of a file over a directory", x.Put(file("a", "y")), api.ErrKind)
	placeless(t, "Put of a directory over a file", x.Put(dir("a/b")), api.ErrKind)
	whole(t, "behind refusals", x, list(dir("a"), file("a/b", "x")))
	placeless(t, "Put of a link", x.Put(link("a/b", "z")), api.OK)
	if got, there := x.Get("a/b"); got != link("a/b", "z") || !there {
		t.Errorf("Get is %v, %v", got, there)
	}
	placeless(t, "Put of another mode", x.Put(dirOf("a", 448)), api.OK)
	whole(t, "behind all", x, list(dirOf("a", 448), link("a/b", "z")))
}

func TestPutOfWrongEntries(t *testing.T) {
	l := list(dir("a"), file("a/b", "x"))
	x := treeOf(t, l...)
	for _, w := range wrongOnes() {
		placeless(t, "Put of "+w.call, x.Put(w.entry), w.no)
		placeless(t, "Put into none of "+w.call, tree.New().Put(w.entry), w.no)
	}
	whole(t, "behind wrong entries", x, l)
}

func TestPutOfRightEntries(t *testing.T) {
	for _, e := range rightOnes() {
		x := tree.New()
		placeless(t, "Put of an edge", x.Put(e), api.OK)
		whole(t, "behind it", x, list(e))
	}
}

func TestPutOverAnother(t *testing.T) {
	kinds := []api.Entry{dirOf("d/p", 1), dirOf("d/p", 2), file("d/p", "x"), file("d/p", "yz"), link("d/p", "l"), link("d/p", "m")}
	for _, old := range kinds {
		for _, e := range kinds {
			x := treeOf(t, dir("d"), old, dir("d.p"))
			if (old.Kind == api.KDir) != (e.Kind == api.KDir) {
				placeless(t, "Put over another kind", x.Put(e), api.ErrKind)
				whole(t, "behind it", x, list(dir("d"), old, dir("d.p")))
				continue
			}
			placeless(t, "Put over its like", x.Put(e), api.OK)
			whole(t, "behind it", x, list(dir("d"), e, dir("d.p")))
		}
	}
}

func TestPutOfADirectoryKeepsWhatIsBelow(t *testing.T) {
	l := list(dir("a"), dir("a/b"), file("a/b/c", "x"), link("a/b/d", "y"), dir("e"))
	x := treeOf(t, l...)
	l[1].Mode = 0
	placeless(t, "Put", x.Put(l[1]), api.OK)
	whole(t, "behind Put", x, l)
	placeless(t, "Put below it", x.Put(file("a/b/c", "zz")), api.OK)
	l[2].Data = "zz"
	whole(t, "behind Put below it", x, l)
}

func TestPutOrder(t *testing.T) {
	full := treeOf(t, append(list(dir("a"), file("b", "")), files(4094)...)...)
	before := full.List()
	placeless(t, "wrong, without a parent", full.Put(dirOf("z/y", 4096)), api.ErrMode)
	placeless(t, "wrong, below a file", full.Put(link("b/c", "")), api.ErrLink)
	placeless(t, "wrong, of another kind", full.Put(dirOf("b", -1)), api.ErrMode)
	placeless(t, "many, without a parent", full.Put(dir("z/y")), api.ErrNone)
	placeless(t, "many, the parent's parent a file", full.Put(dir("b/y/z")), api.ErrNone)
	placeless(t, "many, below a file", full.Put(dir("b/y")), api.ErrDir)
	placeless(t, "of another kind", full.Put(dir("b")), api.ErrKind)
	placeless(t, "many", full.Put(dir("z")), api.ErrMany)
	placeless(t, "many below a directory", full.Put(link("a/z", "b")), api.ErrMany)
	whole(t, "behind refusals", full, before)
	placeless(t, "over a file", full.Put(link("b", "c")), api.OK)
	placeless(t, "over a directory", full.Put(dirOf("a", 0)), api.OK)
	before[0].Mode, before[1] = 0, link("b", "c")
	whole(t, "behind two that come in the place of others", full, before)

	heavy := treeOf(t, append(list(dir("a")), sizes(repeated(1<<20, 16)...)...)...)
	before = heavy.List()
	placeless(t, "heavy, of another kind", heavy.Put(file("a", "x")), api.ErrKind)
	placeless(t, "heavy, without a parent", heavy.Put(file("z/a", "x")), api.ErrNone)
	placeless(t, "heavy, below a file", heavy.Put(file(before[1].Path+"/a", "x")), api.ErrDir)
	placeless(t, "heavy", heavy.Put(file("z", "x")), api.ErrMany)
	placeless(t, "heavy below a directory", heavy.Put(file("a/z", "x")), api.ErrMany)
	whole(t, "behind refusals", heavy, before)
	placeless(t, "over its like", heavy.Put(before[5]), api.OK)
	placeless(t, "without Data", heavy.Put(file("z", "")), api.OK)
	placeless(t, "a link", heavy.Put(link("zz", "abc")), api.OK)
	before = append(before, file("z", ""), link("zz", "abc"))
	whole(t, "behind these", heavy, before)
}

func TestPutGivesRoomBack(t *testing.T) {
	big := strings.Repeat("x", 1<<20)
	x := treeOf(t, sizes(repeated(1<<20, 16)...)...)
	first := x.List()[0].Path
	placeless(t, "Put of a byte less", x.Put(file(first, big[1:])), api.OK)
	placeless(t, "Put of two bytes", x.Put(file("z", "xy")), api.ErrMany)
	placeless(t, "Put of a byte", x.Put(file("z", "x")), api.OK)
	placeless(t, "Put of one more", x.Put(file("zz", "x")), api.ErrMany)
	placeless(t, "Put of a byte more", x.Put(file(first, big)), api.ErrMany)
	placeless(t, "Put of a link", x.Put(link(first, "y")), api.OK)
	placeless(t, "Put of a file again", x.Put(file("zz", big[1:])), api.OK)
	placeless(t, "Put of a byte", x.Put(file("zzz", "x")), api.ErrMany)
	if entries, bytes := x.Size(); entries != 18 || bytes != 1<<24 {
		t.Errorf("Size is %d, %d", entries, bytes)
	}
}

// P7.6

func TestTakeExamples(t *testing.T) {
	x := treeOf(t, dir("a"), file("a/b", "x"))
	for _, w := range []struct {
		p  string
		n  int
		no api.Errno
	}{{"a/z", 0, api.ErrNone}, {"", 0, api.ErrRoot}, {"a", 2, api.OK}, {"a", 0, api.ErrNone}, {"a/b", 0, api.ErrNone}, {"", 0, api.ErrRoot}} {
		n, err := x.Take(w.p)
		placeless(t, "Take of "+w.p, err, w.no)
		if n != w.n {
			t.Errorf("Take(%q) is %d", w.p, n)
		}
	}
	whole(t, "behind all", x, nil)
	placeless(t, "Put again", x.Put(dir("a")), api.OK)
	whole(t, "what was below is gone", x, list(dir("a")))
}

func TestTakeOfNoPath(t *testing.T) {
	l := list(dir("a"), file("a/b", "x"), link("c", "a"), file("d", "y"))
	x := treeOf(t, l...)
	for _, p := range []string{"/", "/a", "a/", "a//b", "a/b/", "a/b/c", ".", "..", "a/.", "a/..", "c/b", "c/", "b", "\x00", strings.Repeat("a/", 1<<20)} {
		n, err := x.Take(p)
		placeless(t, "Take of no path", err, api.ErrNone)
		if n != 0 {
			t.Errorf("Take(%.40q) is %d beside an error", p, n)
		}
	}
	whole(t, "behind refusals", x, l)
}

func TestTakeOfWhatLiesBelow(t *testing.T) {
	x := treeOf(t, dir("a"), dir("a/b"), file("a/b/c", "xyz"), dir("a/b/d"), link("a/b/d/e", "f"), file("a/b.c", "u"), file("a.b", "v"), file("ab", "w"))
	n, err := x.Take("a/b")
	placeless(t, "Take", err, api.OK)
	if n != 4 {
		t.Errorf("Take is %d", n)
	}
	whole(t, "behind it", x, list(dir("a"), file("a/b.c", "u"), file("a.b", "v"), file("ab", "w")))
	n, err = x.Take("a.b")
	placeless(t, "Take of a file", err, api.OK)
	if n != 1 {
		t.Errorf("Take of a file is %d", n)
	}
	whole(t, "behind that", x, list(dir("a"), file("a/b.c", "u"), file("ab", "w")))
	placeless(t, "Put of a file where a directory was", x.Put(file("a/b", "q")), api.OK)
	whole(t, "behind Put", x, list(dir("a"), file("a/b", "q"), file("a/b.c", "u"), file("ab", "w")))
}

func TestTakeGivesRoomBack(t *testing.T) {
	x := treeOf(t, append(list(dir("a"), file("a/b", "")), files(4094)...)...)
	placeless(t, "Put of one more", x.Put(dir("z")), api.ErrMany)
	n, err := x.Take("a")
	placeless(t, "Take", err, api.OK)
	if n != 2 {
		t.Errorf("Take is %d", n)
	}
	placeless(t, "the first Put", x.Put(dir("z")), api.OK)
	placeless(t, "the second Put", x.Put(dir("z/z")), api.OK)
	placeless(t, "the third Put", x.Put(dir("z/zz")), api.ErrMany)
	heavy := treeOf(t, append(list(dir("a"), file("a/b", "x"), file("a/c", "yz")), sizes(append(repeated(1<<20, 15), 1<<20-3)...)...)...)
	placeless(t, "Put of a byte", heavy.Put(file("z", "x")), api.ErrMany)
	_, err = heavy.Take("a")
	placeless(t, "Take", err, api.OK)
	placeless(t, "Put of four bytes", heavy.Put(file("z", "1234")), api.ErrMany)
	placeless(t, "Put of three bytes", heavy.Put(file("z", "123")), api.OK)
}

// P7.7

func TestBelow(t *testing.T) {
	l := list(dir("a"), dir("a/b"), file("a/b/c", "x"), link("a/b/d", "y"), file("a/b.c", "z"), dir("a/e"), link("l", "a"), file("m", ""))
	x := treeOf(t, l...)
	for _, p := range []string{"", "a", "a/b", "a/e"} {
		wantList(t, "Below "+p, slices.Collect(x.Below(p)), plainBelow(l, p))
	}
	for _, p := range []string{"l", "m", "a/b/c", "a/b/d", "l/b", "z", "/", "/a", "a/", "a//b", ".", "..", "a/.", "b", "\x00", strings.Repeat("a/", 1<<20)} {
		wantList(t, "Below what is no directory", slices.Collect(x.Below(p)), nil)
	}
	wantList(t, "Below of none", slices.Collect(tree.New().Below("")), nil)
}

func TestBelowMayBeLeft(t *testing.T) {
	l := list(dir("a"), dir("a/b"), file("a/b/c", "x"), file("a/b/d", "x"), dir("e"), file("e/f", "x"))
	x := treeOf(t, l...)
	walk := x.Below("")
	for n := range len(l) + 1 {
		var got []api.Entry
		for e := range walk {
			if len(got) == n {
				break
			}
			got = append(got, e)
		}
		wantList(t, "a walk that was left", got, l[:n])
	}
	wantList(t, "a whole walk behind these", slices.Collect(walk), l)
	wantList(t, "another whole walk", slices.Collect(walk), l)
	// One walk within another, both over the same iterator.
	steps := 0
	for range walk {
		for range walk {
			steps++
		}
	}
	if steps != len(l)*len(l) {
		t.Errorf("%d steps of walks in walks", steps)
	}
}

// What lies there when a range begins is handed out, not what lay there when Below was asked.
func TestBelowIsAskedWhenARangeBegins(t *testing.T) {
	x := tree.New()
	walk := x.Below("a")
	wantList(t, "ahead of Put", slices.Collect(walk), nil)
	placeless(t, "Put", x.Put(file("a", "x")), api.OK)
	wantList(t, "behind Put of a file", slices.Collect(walk), nil)
	x.Take("a")
	placeless(t, "Put", x.Put(dir("a")), api.OK)
	placeless(t, "Put", x.Put(file("a/b", "x")), api.OK)
	wantList(t, "behind Puts", slices.Collect(walk), list(file("a/b", "x")))
	x.Take("a")
	wantList(t, "behind Take", slices.Collect(walk), nil)
	placeless(t, "Put", x.Put(dir("a")), api.OK)
	placeless(t, "Put", x.Put(dir("a/z")), api.OK)
	wantList(t, "behind Puts again", slices.Collect(walk), list(dir("a/z")))
}

func TestBelowWhileTheTreeChanges(t *testing.T) {
	l := list(dir("a"), file("a/b", "x"), dir("a/c"), file("a/c/d", "y"), file("b", "z"))
	for _, change := range []struct {
		call string
		do   func(x *tree.Tree, e api.Entry)
	}{
		{"Take of the entry", func(x *tree.Tree, e api.Entry) { x.Take(e.Path) }},
		{"Take of all", func(x *tree.Tree, e api.Entry) { x.Take("a"); x.Take("b") }},
		{"Put of more", func(x *tree.Tree, e api.Entry) { x.Put(file("a/c/z"+path.Last(e.Path), "new")) }},
		{"Put of others", func(x *tree.Tree, e api.Entry) { x.Put(file("b", "other")); x.Put(dirOf("a/c", 0)) }},
		{"Put over the entry", func(x *tree.Tree, e api.Entry) { e.Mode = 1; x.Put(e) }},
		{"Take and Put", func(x *tree.Tree, e api.Entry) { x.Take("a"); x.Put(file("a", "")) }},
	} {
		for _, p := range []string{"", "a"} {
			x := treeOf(t, l...)
			var got []api.Entry
			for e := range x.Below(p) {
				got = append(got, e)
				change.do(x, e)
			}
			wantList(t, change.call, got, plainBelow(l, p))
			onlyError(t, change.call, tree.Check(x.List()), api.OK)
		}
	}
}

// P7.8

func TestListIsInOrder(t *testing.T) {
	x := tree.New()
	want := list(dir("a"), dir("a/!"), dir("a/!/z"), dir("a/a"), dir("a/\xff"), dir("a!"), dir("a-b"), dir("a.b"), dir("a0"), dir("aa"), dir("b"), dir("\xc3\xa4"))
	// Shorter paths first, else from the last one on, so that no order is given by how they come.
	for depth := range 3 {
		for i := range want {
			e := want[len(want)-1-i]
			if strings.Count(e.Path, "/") == depth {
				placeless(t, "Put", x.Put(e), api.OK)
			}
		}
	}
	whole(t, "List", x, want)
	for range 20 {
		wantList(t, "List again", x.List(), want)
	}
}

func TestClone(t *testing.T) {
	l := list(dir("a"), dir("a/b"), file("a/b/c", "x"), link("l", "a"), file("m", "yz"))
	changes := []func(x *tree.Tree) error{
		func(x *tree.Tree) error { return x.Put(file("a/b/c", "other")) },
		func(x *tree.Tree) error { return x.Put(dirOf("a/b", 0)) },
		func(x *tree.Tree) error { return x.Put(dir("a/b/z")) },
		func(x *tree.Tree) error { return x.Put(dir("z")) },
		func(x *tree.Tree) error { return x.Put(file("l", "was a link")) },
		func(x *tree.Tree) error { _, err := x.Take("a/b/c"); return err },
		func(x *tree.Tree) error { _, err := x.Take("a"); return err },
		func(x *tree.Tree) error { _, err := x.Take("m"); return err },
	}
	for i, change := range changes {
		x := treeOf(t, l...)
		y := x.Clone()
		z := y.Clone()
		whole(t, "a clone", y, l)
		placeless(t, "the change", change(x), api.OK)
		whole(t, "a clone of what was changed", y, l)
		changed := x.List()
		if slices.Equal(changed, l) {
			t.Fatalf("the change %d changes nothing", i)
		}
		placeless(t, "the change of the clone", change(y), api.OK)
		whole(t, "the clone that was changed", y, changed)
		whole(t, "a clone's clone", z, l)
		placeless(t, "Put", z.Put(dir("new")), api.OK)
		whole(t, "the first one", x, changed)
		whole(t, "the second one", y, changed)
	}
	whole(t, "a clone of none", tree.New().Clone(), nil)
}

// A clone's own count bounds it, not that of the other.
func TestCloneCountsForItself(t *testing.T) {
	x := treeOf(t, files(4095)...)
	y := x.Clone()
	placeless(t, "Put", x.Put(dir("z")), api.OK)
	placeless(t, "Put of one more", x.Put(dir("zz")), api.ErrMany)
	placeless(t, "Put into the clone", y.Put(dir("zz")), api.OK)
	placeless(t, "Put of one more into the clone", y.Put(dir("z")), api.ErrMany)
	full := x.Clone()
	placeless(t, "Put into a clone of a full one", full.Put(dir("zz")), api.ErrMany)
}

// R4

func TestAnswersAreNewMemory(t *testing.T) {
	l := list(dir("a"), file("a/b", "x"), link("c", "a"))
	spoil := func(got []api.Entry) {
		for i := range got[:cap(got)] {
			got[:cap(got)][i] = file("spoilt", "spoilt")
		}
	}
	given := append(make([]api.Entry, 0, 10), l...)
	room := slices.Repeat(list(link("room", "room")), 10-len(l))
	copy(given[len(l):10], room)
	same := func(call string) {
		t.Helper()
		wantList(t, call+": what was handed in", given, l)
		wantList(t, call+": its spare room", given[len(l):10], room)
	}
	x, err := tree.Of(given)
	placeless(t, "Of", err, api.OK)
	same("Of")
	first := x.List()
	spoil(first)
	whole(t, "behind a List that was spoilt", x, l)
	for _, p := range []string{"", "a"} {
		sub, err := tree.Sub(given, p)
		placeless(t, "Sub", err, api.OK)
		spoil(sub)
		same("Sub")
	}
	placeless(t, "Check", tree.Check(given), api.OK)
	same("Check")
	spoil(given)
	whole(t, "behind what was handed in was spoilt", x, l)
}

// P7.9 to P7.11

// somePath is a path of few names, so that paths meet; at times it is none.
func somePath(r *rand.Rand) string {
	names := []string{"a", "b", "a.b", "ab", "\xff"}
	if r.Intn(40) == 0 {
		return []string{"", "/a", "a/", "a//b", ".", "a/..", ".wh.a"}[r.Intn(7)]
	}
	p := names[r.Intn(len(names))]
	for r.Intn(3) > 0 {
		p += "/" + names[r.Intn(len(names))]
	}
	return p
}

func someEntry(r *rand.Rand, p string) api.Entry {
	e := []api.Entry{dirOf(p, r.Intn(4096)), dirOf(p, r.Intn(4096)), file(p, strings.Repeat("x", r.Intn(4))), link(p, "to"+p)}[r.Intn(4)]
	switch r.Intn(60) {
	case 0:
		e.Kind = api.Kind(r.Intn(6) - 1)
	case 1:
		e.Mode = []int{-1, 4096, 511, 0}[r.Intn(4)]
	case 2:
		e.Data = "d"
	case 3:
		e.Link = []string{"", "l", "\x00"}[r.Intn(3)]
	}
	return e
}

func TestChangesAgainstTheSecondTelling(t *testing.T) {
	r := rand.New(rand.NewSource(7))
	for range 150 {
		x := tree.New()
		var l []api.Entry
		var old *tree.Tree
		var oldList []api.Entry
		for range 120 {
			p := somePath(r)
			switch r.Intn(12) {
			case 0:
				next, n, no := plainTake(l, p)
				got, err := x.Take(p)
				placeless(t, "Take of "+p, err, no)
				if got != n {
					t.Fatalf("Take(%q) is %d, not %d", p, got, n)
				}
				l = next
			case 1:
				old, oldList = x.Clone(), l
			case 2:
				if old != nil {
					x, l, old, oldList = old, oldList, x, l
				}
			default:
				e := someEntry(r, p)
				next, no := plainPut(l, e)
				placeless(t, "Put of "+p, x.Put(e), no)
				l = next
				if no == api.OK {
					if got, there := x.Get(p); got != e || !there {
						t.Fatalf("Get(%q) behind Put is %v, %v", p, got, there)
					}
				}
			}
			whole(t, "behind a change", x, l)
			askAll(t, x, l, p)
		}
	}
}

// askAll asks all that tells of p, and holds it against the list.
func askAll(t *testing.T, x *tree.Tree, l []api.Entry, p string) {
	t.Helper()
	at := plainFind(l, p)
	got, there := x.Get(p)
	if there != (at >= 0) || there && got != l[at] || !there && got != (api.Entry{}) {
		t.Fatalf("Get(%q) is %v, %v", p, got, there)
	}
	wantList(t, "Below "+p, slices.Collect(x.Below(p)), plainBelow(l, p))
	sub, err := tree.Sub(l, p)
	want, no := plainSub(l, p)
	placeless(t, "Sub at "+p, err, no)
	wantList(t, "Sub at "+p, sub, want)
	onlyError(t, "Check of Sub at "+p, tree.Check(sub), api.OK)
	again, err := tree.Of(l)
	onlyError(t, "Of of List", err, api.OK)
	wantList(t, "List of Of of List", again.List(), l)
}

// someTree is a list that is a tree.
func someTree(r *rand.Rand) []api.Entry {
	var l []api.Entry
	for range 3 + r.Intn(25) {
		l, _ = plainPut(l, someEntry(r, somePath(r)))
	}
	return l
}

func TestCheckAgainstTheSecondTelling(t *testing.T) {
	r := rand.New(rand.NewSource(11))
	met := map[api.Errno]int{}
	for range 20000 {
		l := someTree(r)
		for range r.Intn(3) {
			if len(l) == 0 {
				break
			}
			i, j := r.Intn(len(l)), r.Intn(len(l))
			switch r.Intn(5) {
			case 0:
				l[i], l[j] = l[j], l[i]
			case 1:
				l = slices.Insert(l, i, l[j])
			case 2:
				l = slices.Delete(l, i, i+1)
			case 3:
				l[i] = someEntry(r, l[i].Path)
			case 4:
				l = slices.Insert(l, i, someEntry(r, somePath(r)))
			}
		}
		no, at := plainCheck(l)
		met[no]++
		refused(t, "a list", l, no, at)
		if no == api.OK {
			treeOf(t, l...)
		}
	}
	for _, no := range []api.Errno{api.OK, api.ErrKind, api.ErrRoot, api.ErrName, api.ErrMode, api.ErrLink, api.ErrForm, api.ErrTwice, api.ErrArg, api.ErrNone, api.ErrDir} {
		if met[no] < 5 {
			t.Errorf("%v was met %d times", no, met[no])
		}
	}
}

// Sub of a tree is a tree also where the paths are as long and as deep as can be.
func TestSubOfLongPaths(t *testing.T) {
	var l []api.Entry
	p := ""
	for _, n := range []int{94, 60, 38, 1} {
		p = path.Join(p, strings.Repeat("n", n))
		if path.Check(p) == nil {
			l = append(l, dir(p))
		}
	}
	deep := ""
	for range 32 {
		deep = path.Join(deep, "z")
		l = append(l, dir(deep))
	}
	x := treeOf(t, l...)
	for _, e := range l {
		sub, err := tree.Sub(l, e.Path)
		want, no := plainSub(l, e.Path)
		placeless(t, "Sub", err, no)
		wantList(t, "Sub", sub, want)
		onlyError(t, "Check of Sub", tree.Check(sub), api.OK)
		wantList(t, "Below", slices.Collect(x.Below(e.Path)), plainBelow(l, e.Path))
	}
}
