package delta_test

import (
	"errors"
	"fmt"
	"math"
	"math/rand"
	"slices"
	"strings"
	"testing"

	"strata/api"
	"strata/delta"
	"strata/path"
	"strata/tree"
)

func dir(p string) api.Entry { return dirOf(p, 493) }

func dirOf(p string, mode int) api.Entry { return api.Entry{Path: p, Kind: api.KDir, Mode: mode} }

func file(p, data string) api.Entry { return fileOf(p, 420, data) }

func fileOf(p string, mode int, data string) api.Entry {
	return api.Entry{Path: p, Kind: api.KFile, Mode: mode, Data: data}
}

func link(p, to string) api.Entry {
	return api.Entry{Path: p, Kind: api.KLink, Mode: 511, Link: to}
}

func list(l ...api.Entry) []api.Entry { return l }

func gone(p string) api.Change { return api.Change{Path: p, Gone: true} }

func laid(e api.Entry) api.Change { return api.Change{Path: e.Path, Entry: e} }

func changes(l ...api.Change) []api.Change { return l }

// many are n files, in order.
func many(n int) []api.Entry {
	var l []api.Entry
	for i := range n {
		l = append(l, file(fmt.Sprintf("f%05d", i), ""))
	}
	return l
}

// told is a row of changes as the chapter writes it; of a long one its beginning.
func told(l []api.Change) string {
	s := ""
	for _, c := range l[:min(len(l), 50)] {
		switch {
		case c.Gone:
			s += fmt.Sprintf(" -%q", c.Path)
		default:
			s += fmt.Sprintf(" +%q:%d,%o,%.20q,%q", c.Path, c.Entry.Kind, c.Entry.Mode, c.Entry.Data, c.Entry.Link)
		}
	}
	return s
}

// refused fails unless err is just the number no, and tells just that place.
func refused(t *testing.T, call string, err error, no api.Errno, line, at int) {
	t.Helper()
	for other := api.ErrArg; other <= api.ErrEmpty; other++ {
		if errors.Is(err, other) != (other == no) {
			t.Fatalf("%s: the error is %v, not %v", call, err, no)
		}
	}
	var fault api.Fault
	if !errors.As(err, &fault) || fault != (api.Fault{No: no, Line: line, At: at}) {
		t.Fatalf("%s: the error tells %+v, not %v at %d:%d", call, fault, no, line, at)
	}
}

// diffs fails unless Diff of a and b is want.
func diffs(t *testing.T, a, b []api.Entry, want ...api.Change) {
	t.Helper()
	l, err := delta.Diff(a, b)
	if err != nil || !slices.Equal(l, want) {
		t.Fatalf("Diff of %.300v and %.300v is%.500s, %v; not%.500s", a, b, told(l), err, told(want))
	}
}

// diffOf is Diff of two trees, which isn't refused.
func diffOf(t *testing.T, a, b []api.Entry) []api.Change {
	t.Helper()
	l, err := delta.Diff(a, b)
	if err != nil {
		t.Fatalf("Diff of %.300v and %.300v is refused: %v", a, b, err)
	}
	return l
}

// makes fails unless Apply of l to a is want.
func makes(t *testing.T, a []api.Entry, l []api.Change, want ...api.Entry) {
	t.Helper()
	b, err := delta.Apply(a, l)
	if err != nil || !slices.Equal(b, want) {
		t.Fatalf("Apply of%.500s to %.300v is %.300v, %v; not %.300v", told(l), a, b, err, want)
	}
}

// stops fails unless Apply, and Back too, is refused at the change with the number at.
func stops(t *testing.T, a []api.Entry, l []api.Change, no api.Errno, at int) {
	t.Helper()
	b, err := delta.Apply(a, l)
	refused(t, "Apply of"+told(l), err, no, 1, at)
	back, again := delta.Back(a, l)
	refused(t, "Back of"+told(l), again, no, 1, at)
	if len(b) != 0 || len(back) != 0 {
		t.Fatalf("beside an error: %v, %v", b, back)
	}
}

// agree fails unless Diff answers as the second telling does, and what follows of it holds.
func agree(t *testing.T, a, b []api.Entry) {
	t.Helper()
	l := diffOf(t, a, b)
	if want := plainDiff(a, b); !slices.Equal(l, want) {
		t.Fatalf("Diff of %v and %v is%s, not%s", a, b, told(l), told(want))
	}
	makes(t, a, l, b...)
	if (len(l) == 0) != slices.Equal(a, b) || len(l) > len(a)+len(b) {
		t.Fatalf("Diff of %v and %v is%s", a, b, told(l))
	}
	alone(t, b, l)
	back, err := delta.Back(a, l)
	if want := plainDiff(b, a); err != nil || !slices.Equal(back, want) {
		t.Fatalf("Back of %v and%s is%s, %v; not%s", a, told(l), told(back), err, told(want))
	}
	makes(t, b, back, a...)
}

// alone is what P10.6 says of the paths of a Diff that makes b.
func alone(t *testing.T, b []api.Entry, l []api.Change) {
	t.Helper()
	for i, c := range l {
		if slices.Contains(l[:i], c) {
			t.Fatalf("twice in one Diff: %s", told(l))
		}
		if c.Gone && c.Entry != (api.Entry{}) {
			t.Fatalf("the Entry of a Gone is %v", c.Entry)
		}
		for _, other := range l {
			if _, there := plainAt(b, c.Path); other.Gone && path.Below(other.Path, c.Path) && !there {
				t.Fatalf("%q lies below %q, which is gone", c.Path, other.Path)
			}
		}
	}
}

// The chapter's table of examples.
func TestExamples(t *testing.T) {
	diffs(t, list(dir("a"), file("a/b", "x"), file("c", "y")), list(dir("a"), file("a/b", "z"), file("d", "y")),
		laid(file("a/b", "z")), gone("c"), laid(file("d", "y")))
	diffs(t, list(dir("a"), dir("a/b"), file("a/b/c", "x")), nil, gone("a"))
	diffs(t, list(dir("a"), file("a/b", "x")), list(file("a", "x")), gone("a"), laid(file("a", "x")))
	diffs(t, list(file("a", "x")), list(dir("a"), file("a/b", "x")), gone("a"), laid(dir("a")), laid(file("a/b", "x")))
	diffs(t, list(file("a", "x")), list(link("a", "x")), laid(link("a", "x")))
	diffs(t, list(dir("a"), file("a/b", "x")), list(dirOf("a", 448), file("a/b", "x")), laid(dirOf("a", 448)))
	_, err := delta.Diff(list(dir("a")), list(dir("b"), dir("b")))
	refused(t, "b twice", err, api.ErrTwice, 1, 1)

	ab := list(dir("a"), file("a/b", "x"))
	makes(t, ab, changes(gone("a")))
	stops(t, ab, changes(gone("a"), gone("a")), api.ErrNone, 1)
	stops(t, ab, changes(gone("z")), api.ErrNone, 0)
	stops(t, ab, changes(gone("")), api.ErrRoot, 0)
	stops(t, list(dir("a")), changes(laid(file("a", "x"))), api.ErrKind, 0)
	stops(t, list(dir("a")), changes(laid(file("b/c", "x"))), api.ErrNone, 0)
	stops(t, list(dir("a")), changes(api.Change{Path: "c", Entry: file("b", "x")}), api.ErrArg, 0)
	full := many(4096)
	l := changes(laid(file("g", "")), gone("g"))
	makes(t, full, l, full...)
	stops(t, full, l[:1], api.ErrMany, 1)
	back, err := delta.Back(list(file("a", "x")), changes(laid(file("a", "y")), laid(file("b", "z"))))
	if want := changes(laid(file("a", "x")), gone("b")); err != nil || !slices.Equal(back, want) {
		t.Errorf("Back is%s, %v", told(back), err)
	}
}

// P10.1

func TestDiffOfOneEntry(t *testing.T) {
	all := list(dir("a"), dirOf("a", 448), dirOf("a", 0), file("a", "x"), file("a", "y"), file("a", ""), fileOf("a", 511, "x"), fileOf("a", 4095, ""), link("a", "x"), link("a", "y"))
	for _, x := range all {
		diffs(t, list(x), nil, gone("a"))
		diffs(t, nil, list(x), laid(x))
		for _, y := range all {
			switch {
			case x == y:
				diffs(t, list(x), list(y))
			case (x.Kind == api.KDir) == (y.Kind == api.KDir):
				diffs(t, list(x), list(y), laid(y))
			default:
				diffs(t, list(x), list(y), gone("a"), laid(y))
			}
		}
	}
	diffs(t, nil, nil)
	diffs(t, list(), nil)
}

func TestDiffStandsInTheOrderOfPaths(t *testing.T) {
	a := list(dir("a"), file("a/b", "x"), file("a.b", "x"), file("ab", "x"))
	b := list(dir("a"), file("a/c", "x"), link("a.b", "x"), dir("ab"), file("b", ""))
	diffs(t, a, b, gone("a/b"), laid(file("a/c", "x")), laid(link("a.b", "x")), gone("ab"), laid(dir("ab")), laid(file("b", "")))
	diffs(t, b, a, laid(file("a/b", "x")), gone("a/c"), laid(file("a.b", "x")), gone("ab"), laid(file("ab", "x")), gone("b"))
	diffs(t, list(dir("a"), file("a/z", "x"), file("a.b", "x")), list(file("a.b", "y")), gone("a"), laid(file("a.b", "y")))
	diffs(t, nil, a, laid(a[0]), laid(a[1]), laid(a[2]), laid(a[3]))
	diffs(t, a, nil, gone("a"), gone("a.b"), gone("ab"))
}

// What lies below a path that is gone is told no more; what only looks so is.
func TestDiffTellsTheUppermostAlone(t *testing.T) {
	a := list(dir("a"), dir("a/b"), dir("a/b/c"), file("a/b/c/d", "x"), file("a/e", "x"), dir("a-"), file("a-/b", "x"), dir("aa"), file("aa/b", "x"))
	diffs(t, a, nil, gone("a"), gone("a-"), gone("aa"))
	diffs(t, a, list(a[0]), gone("a/b"), gone("a/e"), gone("a-"), gone("aa"))
	diffs(t, a, list(a[0], file("a/b", "x"), a[5], a[7]), gone("a/b"), laid(file("a/b", "x")), gone("a/e"), gone("a-/b"), gone("aa/b"))
	diffs(t, a, list(link("a", "x"), a[5], a[6]), gone("a"), laid(link("a", "x")), gone("aa"))
	diffs(t, list(file("a", "x"), dir("b"), file("b/c", "x")), list(dir("a"), file("a/b", "x"), file("b", "x")),
		gone("a"), laid(dir("a")), laid(file("a/b", "x")), gone("b"), laid(file("b", "x")))
}

// The entries below a directory that only has another mode are not laid.
func TestDiffOfModesAlone(t *testing.T) {
	a := list(dir("a"), dir("a/b"), file("a/b/c", "x"))
	for i, e := range a {
		b := slices.Clone(a)
		b[i].Mode ^= 1
		diffs(t, a, b, laid(b[i]))
		diffs(t, b, a, laid(e))
	}
}

// Each of these is no tree, and is refused by the number at the place.
func noTrees() []struct {
	l  []api.Entry
	no api.Errno
	at int
} {
	big := strings.Repeat("x", api.MaxFile)
	var heavy []api.Entry
	for i := range 16 {
		heavy = append(heavy, file(string(rune('a'+i)), big))
	}
	return []struct {
		l  []api.Entry
		no api.Errno
		at int
	}{
		{list(api.Entry{}), api.ErrKind, 0},
		{list(dir("a"), file("", "x")), api.ErrRoot, 1},
		{list(dir("a"), dir("a/..")), api.ErrName, 1},
		{list(dir("a"), dirOf("b", -1)), api.ErrMode, 1},
		{list(dir("a"), link("b", "")), api.ErrLink, 1},
		{list(file("a", big+"x")), api.ErrMany, 0},
		{list(api.Entry{Path: "a", Kind: api.KDir, Data: "x"}), api.ErrForm, 0},
		{list(dir("a"), dir("b"), dir("b")), api.ErrTwice, 2},
		{list(dir("a"), file("a.b", "x"), file("a/b", "x")), api.ErrArg, 2},
		{list(dir("a"), dir("b/c")), api.ErrNone, 1},
		{list(file("a", "x"), dir("a/b")), api.ErrDir, 1},
		{many(4097), api.ErrMany, 4096},
		{append(heavy, file("z", "x")), api.ErrMany, 16},
	}
}

func TestNoTrees(t *testing.T) {
	ab := list(dir("a"), file("a/b", "x"))
	for _, x := range noTrees() {
		for _, other := range noTrees() {
			l, err := delta.Diff(x.l, other.l)
			refused(t, "Diff of two that are none", err, x.no, 0, x.at)
			if len(l) != 0 {
				t.Fatalf("beside an error: %.300v", l)
			}
		}
		_, err := delta.Diff(x.l, ab)
		refused(t, "Diff, the first is none", err, x.no, 0, x.at)
		l, err := delta.Diff(ab, x.l)
		refused(t, "Diff, the second is none", err, x.no, 1, x.at)
		if len(l) != 0 {
			t.Fatalf("beside an error: %.300v", l)
		}
		for _, l := range [][]api.Change{nil, changes(gone("a")), changes(gone("")), changes(laid(api.Entry{}))} {
			b, err := delta.Apply(x.l, l)
			refused(t, "Apply to what is no tree", err, x.no, 0, x.at)
			back, err := delta.Back(x.l, l)
			refused(t, "Back of what is no tree", err, x.no, 0, x.at)
			if len(b) != 0 || len(back) != 0 {
				t.Fatalf("beside an error: %.300v, %.300v", b, back)
			}
		}
	}
}

// P10.2

func TestGone(t *testing.T) {
	l := list(dir("a"), dir("a/b"), file("a/b/c", "x"), link("a/l", "b"), file("a.b", "y"), dir("aa"), file("aa/b", "z"))
	makes(t, l, nil, l...)
	makes(t, l, changes(gone("a")), l[4:]...)
	makes(t, l, changes(gone("a/b")), l[0], l[3], l[4], l[5], l[6])
	makes(t, l, changes(gone("a/b/c")), l[0], l[1], l[3], l[4], l[5], l[6])
	makes(t, l, changes(gone("a/l")), l[0], l[1], l[2], l[4], l[5], l[6])
	makes(t, l, changes(gone("aa"), gone("a/b/c"), gone("a/b"), gone("a"), gone("a.b")))
	for _, p := range []string{"b", "a/", "/a", "a//b", "a/./b", "a/b/../b", ".", "..", "/", "//", "a/b/c/d", "a/b/c/", "a/l/c", "A", "a\x00", ".wh.a", "a/.wh.b", "\xff", strings.Repeat("a/", 100000), strings.Repeat("a", 100000)} {
		stops(t, l, changes(gone(p)), api.ErrNone, 0)
		stops(t, l, changes(gone("aa"), gone("a/b/c"), gone(p)), api.ErrNone, 2)
		stops(t, nil, changes(gone(p)), api.ErrNone, 0)
	}
	stops(t, nil, changes(gone("")), api.ErrRoot, 0)
	stops(t, l, changes(gone("aa"), gone("")), api.ErrRoot, 1)
	stops(t, l, changes(gone("a"), gone("a/b")), api.ErrNone, 1)
	stops(t, l, changes(gone("a"), gone("a")), api.ErrNone, 1)
}

// The Entry of a Gone says nothing, whatever it is.
func TestGoneHasNoEntry(t *testing.T) {
	for _, e := range list(dir("a"), file("b", "x"), file("..", "x"), dirOf("a", -1), link("a", ""), api.Entry{Kind: 77}) {
		c := api.Change{Path: "a", Gone: true, Entry: e}
		makes(t, list(dir("a"), file("a/b", "x")), changes(c))
		stops(t, list(dir("b")), changes(c), api.ErrNone, 0)
		c.Path = ""
		stops(t, list(dir("b")), changes(c), api.ErrRoot, 0)
	}
}

func TestLaid(t *testing.T) {
	l := list(dir("a"), dir("a/b"), file("a/b/c", "x"), file("f", "y"), link("l", "a"))
	for i, e := range list(dirOf("a", 448), dirOf("a/b", 0), fileOf("a/b/c", 0, "other"), link("f", "x"), file("l", "")) {
		b := slices.Clone(l)
		b[i] = e
		makes(t, l, changes(laid(e)), b...)
		makes(t, l, changes(laid(e), laid(l[i])), l...)
	}
	makes(t, l, changes(laid(dir("a/b/d")), laid(file("a/b/d/e", "1")), laid(link("a/b/d/e", "2"))), l[0], l[1], l[2], dir("a/b/d"), link("a/b/d/e", "2"), l[3], l[4])
	makes(t, l, changes(laid(file("e", "")), laid(file("a.b", "")), laid(file("a/a", ""))), l[0], file("a/a", ""), l[1], l[2], file("a.b", ""), file("e", ""), l[3], l[4])
	makes(t, nil, changes(laid(dir("a")), laid(dir("a/b")), laid(file("a/b/c", "x")), laid(file("f", "y")), laid(link("l", "a"))), l...)
}

// What stands against an entry where it is to be laid.
func TestLaidWhereItMayNot(t *testing.T) {
	l := list(dir("a"), dir("a/b"), file("a/b/c", "x"), file("f", "y"), link("l", "a"))
	for _, e := range list(file("a", "x"), link("a", "x"), file("a/b", ""), link("a/b", "x"), dir("a/b/c"), dir("f"), dir("l")) {
		stops(t, l, changes(laid(e)), api.ErrKind, 0)
	}
	for _, p := range []string{"b/c", "a/c/d", "a/b/d/e", "a/b/c/d/e", "f/g/h", "l/b/c", "a.b/c"} {
		stops(t, l, changes(laid(dir(p))), api.ErrNone, 0)
		stops(t, l, changes(laid(file(p, "x"))), api.ErrNone, 0)
		stops(t, l, changes(laid(link(p, "x"))), api.ErrNone, 0)
	}
	for _, p := range []string{"a/b/c/d", "f/g", "l/b"} {
		stops(t, l, changes(laid(dir(p))), api.ErrDir, 0)
		stops(t, l, changes(laid(file(p, "x"))), api.ErrDir, 0)
		stops(t, l, changes(laid(link(p, "x"))), api.ErrDir, 0)
	}
	stops(t, l, changes(gone("a"), laid(file("a/b", "x"))), api.ErrNone, 1)
	stops(t, l, changes(gone("a"), laid(file("a", "x")), laid(file("a/b", "x"))), api.ErrDir, 2)
	stops(t, l, changes(laid(dir("g")), laid(link("l", "g")), laid(file("g", "x"))), api.ErrKind, 2)
}

func TestLaidAtAnotherPath(t *testing.T) {
	ab := list(dir("a"), file("a/b", "x"))
	for _, e := range list(file("b", "x"), dir("a"), api.Entry{}, api.Entry{Path: "a", Kind: 9}, file("", "x"), file("..", ""), dirOf("x/y", -1), link("b", ""), file("a/", "x"), file("b", strings.Repeat("x", api.MaxFile+1))) {
		for _, p := range []string{"c", "a/b", "", "a//b"} {
			if e.Path != p {
				stops(t, ab, changes(api.Change{Path: p, Entry: e}), api.ErrArg, 0)
				stops(t, ab, changes(gone("a"), api.Change{Path: p, Entry: e}), api.ErrArg, 1)
			}
		}
	}
	stops(t, ab, changes(api.Change{Path: "a"}), api.ErrArg, 0)
	stops(t, ab, changes(api.Change{}), api.ErrKind, 0)
}

// wrongOnes are entries that are wrong by themselves, at a path whose parent may or may not be there.
func wrongOnes(p string) []api.Entry {
	var l []api.Entry
	for _, kind := range []api.Kind{api.KNone, api.KDir, api.KFile, api.KLink, 4, -1, math.MaxInt} {
		for _, mode := range []int{-1, 0, 420, 511, 4095, 4096, math.MinInt, math.MaxInt} {
			for _, data := range []string{"", "x", strings.Repeat("x", api.MaxFile), strings.Repeat("x", api.MaxFile+1)} {
				for _, to := range []string{"", "x", "a\x00", strings.Repeat("x", 100), strings.Repeat("x", 101)} {
					if e := (api.Entry{Path: p, Kind: kind, Mode: mode, Data: data, Link: to}); plainWrong(e) != api.OK {
						l = append(l, e)
					}
				}
			}
		}
	}
	return l
}

// What is wrong with an entry by itself comes ahead of what stands against it in the tree.
func TestLaidThoughWrongByItself(t *testing.T) {
	l := list(dir("a"), dir("a/b"), file("f", "y"))
	for _, p := range []string{"a", "f", "new", "a/b/new", "none/new", "f/new", "", "..", "a/.wh.b", "a//b", strings.Repeat("a/", 32) + "a"} {
		for _, e := range wrongOnes(p) {
			stops(t, l, changes(laid(e)), plainWrong(e), 0)
		}
	}
	e := file("f", strings.Repeat("x", api.MaxFile))
	makes(t, l, changes(laid(e)), l[0], l[1], e)
	e = link("f", strings.Repeat("x", 100))
	makes(t, l, changes(laid(e)), l[0], l[1], e)
	for _, mode := range []int{0, 4095} {
		makes(t, l, changes(laid(fileOf("f", mode, ""))), l[0], l[1], fileOf("f", mode, ""))
	}
}

// Changes are done in the order in which they stand, whatever that is; the first one that can't be done counts.
func TestChangesOneByOne(t *testing.T) {
	l := list(dir("a"), file("a/b", "x"))
	makes(t, l, changes(gone("a"), laid(file("a", "x"))), file("a", "x"))
	makes(t, l, changes(gone("a"), laid(dir("a"))), dir("a"))
	makes(t, l, changes(laid(file("z", "")), gone("a"), laid(dir("a")), gone("z"), laid(dir("a/z"))), dir("a"), dir("a/z"))
	makes(t, l, changes(laid(file("a/b", "1")), laid(file("a/b", "2")), laid(file("a/b", "3"))), dir("a"), file("a/b", "3"))
	stops(t, l, changes(laid(file("a", "x")), gone("a")), api.ErrKind, 0)
	stops(t, l, changes(laid(file("z/y", "x")), laid(dir("z"))), api.ErrNone, 0)
	stops(t, l, changes(laid(dir("z")), gone("y"), gone(""), laid(api.Entry{})), api.ErrNone, 1)
	stops(t, l, changes(laid(dir("z")), laid(api.Entry{}), gone("y")), api.ErrKind, 1)
	stops(t, l, changes(gone("a"), gone("a/b"), laid(dir("a"))), api.ErrNone, 1)
}

func laidAll(l []api.Entry) []api.Change {
	var all []api.Change
	for _, e := range l {
		all = append(all, laid(e))
	}
	return all
}

func TestManyEntries(t *testing.T) {
	full := many(4096)
	makes(t, nil, laidAll(full), full...)
	stops(t, nil, laidAll(many(4097)), api.ErrMany, 4097)
	stops(t, full, changes(laid(dir("z"))), api.ErrMany, 1)
	stops(t, full, changes(gone("f00000"), laid(dir("z")), laid(dir("y"))), api.ErrMany, 3)
	makes(t, full, changes(gone("f00000"), laid(dir("z"))), append(slices.Clone(full[1:]), dir("z"))...)
	makes(t, full, changes(laid(dir("z")), gone("f00000")), append(slices.Clone(full[1:]), dir("z"))...)
	makes(t, full, changes(laid(file("f00007", ""))), full...)
	stops(t, full, changes(laid(dir("z")), gone("y")), api.ErrNone, 1)
	stops(t, full, changes(laid(dir("z")), laid(dir("y")), laid(file("y", ""))), api.ErrKind, 2)
	diffs(t, full, nil, func() []api.Change {
		var all []api.Change
		for _, e := range full {
			all = append(all, gone(e.Path))
		}
		return all
	}()...)
	diffs(t, nil, full, laidAll(full)...)
}

// In the midst there may be far more than a tree has, if it is gone in the end.
func TestFarMoreInTheMidst(t *testing.T) {
	l := list(dir("d"), file("d/keep", "x"))
	row := changes(laid(dir("z")))
	for _, e := range many(30000) {
		e.Path = "z/" + e.Path
		row = append(row, laid(e))
	}
	stops(t, l, row, api.ErrMany, 30001)
	makes(t, l, append(row, gone("z")), l...)
	makes(t, l, append(row, gone("z"), laid(dir("z"))), l[0], l[1], dir("z"))
	stops(t, l, append(row, gone("z"), gone("z/f00000")), api.ErrNone, 30002)
}

func TestManyBytes(t *testing.T) {
	big := strings.Repeat("x", api.MaxFile)
	var full []api.Entry
	for i := range 16 {
		full = append(full, file(string(rune('a'+i)), big))
	}
	one := laid(file("z", "1"))
	makes(t, nil, laidAll(full), full...)
	makes(t, full, nil, full...)
	stops(t, full, changes(one), api.ErrMany, 1)
	stops(t, full[:15], changes(laid(full[15]), one), api.ErrMany, 2)
	makes(t, full, changes(one, gone("z")), full...)
	makes(t, full, changes(one, gone("a")), append(slices.Clone(full[1:]), file("z", "1"))...)
	makes(t, full, changes(one, laid(file("a", big[1:]))), append(append(list(file("a", big[1:])), full[1:]...), file("z", "1"))...)
	makes(t, full, changes(laid(file("z", big)), laid(link("z", big[:100]))), append(slices.Clone(full), link("z", big[:100]))...)
	makes(t, full, changes(laid(file("z", "")), laid(full[3])), append(slices.Clone(full), file("z", ""))...)
	stops(t, full, changes(laid(file("z", "")), one, laid(file("a", big))), api.ErrMany, 3)
	agree(t, full, full[3:])
}

// P10.3

func TestBack(t *testing.T) {
	l := list(dir("a"), file("a/b", "x"), link("c", "x"))
	for _, x := range []struct {
		done, want []api.Change
	}{
		{nil, nil},
		{changes(laid(file("a/b", "x"))), nil},
		{changes(gone("c"), laid(link("c", "x"))), nil},
		{changes(laid(file("z", "")), gone("z")), nil},
		{changes(gone("a")), changes(laid(dir("a")), laid(file("a/b", "x")))},
		{changes(gone("a"), laid(file("a", "y"))), changes(gone("a"), laid(dir("a")), laid(file("a/b", "x")))},
		{changes(laid(dirOf("a", 448)), laid(dir("a/c")), laid(file("a/c/d", ""))), changes(laid(dir("a")), gone("a/c"))},
		{changes(laid(file("c", "x")), laid(file("a/b", "y"))), changes(laid(file("a/b", "x")), laid(link("c", "x")))},
		{changes(gone("c"), laid(dir("c")), laid(dir("c/d")), gone("a/b")), changes(laid(file("a/b", "x")), gone("c"), laid(link("c", "x")))},
	} {
		back, err := delta.Back(l, x.done)
		if err != nil || !slices.Equal(back, x.want) {
			t.Errorf("Back of%s is%s, %v; not%s", told(x.done), told(back), err, told(x.want))
		}
	}
}

// R4

// spoiled is a row with spare room behind it, in which something stands.
func spoiled[E any](l []E, e E) []E {
	room := append(make([]E, 0, len(l)+5), l...)
	for i := range 5 {
		room[:len(l)+5][len(l)+i] = e
	}
	return room
}

func TestMemory(t *testing.T) {
	a := spoiled(list(dir("a"), file("a/b", "x"), file("c", "y")), file("z", "z"))
	b := spoiled(list(dirOf("a", 448), file("a/d", "x"), dir("c")), file("y", "y"))
	allA, allB := slices.Clone(a[:cap(a)]), slices.Clone(b[:cap(b)])
	l := spoiled(diffOf(t, a, b), gone("spare"))
	allL := slices.Clone(l[:cap(l)])
	for range 2 {
		done, err := delta.Apply(a, l)
		same, again := delta.Apply(a, nil)
		back, other := delta.Back(a, l)
		first := diffOf(t, a, b)
		if err != nil || again != nil || other != nil || !slices.Equal(done, b) || !slices.Equal(same, a) || !slices.Equal(back, plainDiff(b, a)) || !slices.Equal(first, l) {
			t.Fatalf("%v, %v, %v, %v", done, same, back, first)
		}
		if !slices.Equal(a[:cap(a)], allA) || !slices.Equal(b[:cap(b)], allB) || !slices.Equal(l[:cap(l)], allL) {
			t.Fatal("an argument was changed")
		}
		for _, answer := range [][]api.Entry{done, same} {
			clear(answer[:cap(answer)])
		}
		for _, answer := range [][]api.Change{back, first} {
			clear(answer[:cap(answer)])
		}
	}
}

// P10.4 to P10.6

// inner are all that may stand at a path where nothing lies below it.
func inner(p string) [][]api.Entry {
	return [][]api.Entry{nil, list(file(p, "x")), list(file(p, "y")), list(link(p, "x")), list(dir(p)), list(dirOf(p, 448))}
}

// smallTrees are all trees of a, a/b, a/b.c and a.b with few things at each.
func smallTrees() [][]api.Entry {
	tops := inner("a")[:4]
	for _, top := range inner("a")[4:] {
		for _, x := range inner("a/b") {
			for _, y := range inner("a/b.c")[:5] {
				tops = append(tops, slices.Concat(top, x, y))
			}
		}
	}
	var all [][]api.Entry
	for _, top := range tops {
		for _, z := range [][]api.Entry{nil, list(file("a.b", "x")), list(dir("a.b"))} {
			all = append(all, slices.Concat(top, z))
		}
	}
	return all
}

func TestAllPairsOfSmallTrees(t *testing.T) {
	all := smallTrees()
	for _, a := range all {
		for _, b := range all {
			agree(t, a, b)
		}
	}
}

// somePath is a path of few names, so that paths meet.
func somePath(r *rand.Rand) string {
	names := []string{"a", "b", "a.b", "ab", "\xff"}
	p := names[r.Intn(len(names))]
	for r.Intn(3) > 0 {
		p += "/" + names[r.Intn(len(names))]
	}
	return p
}

func someEntry(r *rand.Rand, p string) api.Entry {
	return list(dirOf(p, r.Intn(4096)), dir(p), dir(p), file(p, fmt.Sprint(r.Intn(3))), link(p, "to"+fmt.Sprint(r.Intn(3))))[r.Intn(5)]
}

func someTree(r *rand.Rand, many int) []api.Entry {
	x := tree.New()
	for range r.Intn(many) {
		x.Put(someEntry(r, somePath(r)))
	}
	return x.List()
}

func TestTreesAgainstTheSecondTelling(t *testing.T) {
	r := rand.New(rand.NewSource(10))
	for range 3000 {
		a := someTree(r, 60)
		agree(t, a, someTree(r, 60))
		x, err := tree.Of(a)
		if err != nil {
			t.Fatal(err)
		}
		for range r.Intn(6) {
			if p := somePath(r); r.Intn(2) > 0 {
				x.Take(p)
			} else {
				x.Put(someEntry(r, p))
			}
		}
		agree(t, a, x.List())
	}
}

// someChange can often be done, and sometimes is none that any tree takes.
func someChange(r *rand.Rand) api.Change {
	p := somePath(r)
	e := someEntry(r, p)
	switch r.Intn(40) {
	case 0:
		e.Mode = -1
	case 1:
		e.Kind = api.KNone
	case 2:
		return api.Change{Path: "c", Entry: e}
	case 3:
		return laid(file("a//b", ""))
	case 4:
		return gone([]string{"", "a/", "/"}[r.Intn(3)])
	}
	return api.Change{Path: p, Gone: r.Intn(3) == 0, Entry: e}
}

func TestChangesAgainstTheSecondTelling(t *testing.T) {
	r := rand.New(rand.NewSource(11))
	through := 0
	for range 20000 {
		a := someTree(r, 20)
		var l []api.Change
		for range r.Intn(40) {
			c := someChange(r)
			// Most changes that can't be done are left out, so that rows become long.
			if _, no, _ := plainApply(a, append(l, c)); no == api.OK || r.Intn(30) == 0 {
				l = append(l, c)
			}
		}
		want, no, at := plainApply(a, l)
		if no != api.OK {
			stops(t, a, l, no, at)
			continue
		}
		through++
		makes(t, a, l, want...)
		if err := tree.Check(want); err != nil {
			t.Fatalf("Apply answers no tree: %v", want)
		}
		back, err := delta.Back(a, l)
		if err != nil || !slices.Equal(back, plainDiff(want, a)) {
			t.Fatalf("Back of%s is%s, %v", told(l), told(back), err)
		}
		makes(t, want, back, a...)
	}
	if through < 2000 {
		t.Errorf("only %d rows could be done", through)
	}
}
