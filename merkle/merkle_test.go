package merkle_test

import (
	"errors"
	"fmt"
	"math"
	"math/rand"
	"reflect"
	"slices"
	"strings"
	"testing"

	"strata/api"
	"strata/digest"
	"strata/merkle"
	"strata/path"
	"strata/tree"
)

func dir(p string) api.Entry { return dirOf(p, 493) }

func dirOf(p string, mode int) api.Entry { return api.Entry{Path: p, Kind: api.KDir, Mode: mode} }

func file(p, data string) api.Entry { return fileOf(p, 420, data) }

func fileOf(p string, mode int, data string) api.Entry {
	return api.Entry{Path: p, Kind: api.KFile, Mode: mode, Data: data}
}

func link(p, to string) api.Entry {
	return api.Entry{Path: p, Kind: api.KLink, Mode: 511, Link: to}
}

func list(l ...api.Entry) []api.Entry { return l }

// inOrder is the entries in the order of a tree.
func inOrder(l ...api.Entry) []api.Entry {
	slices.SortFunc(l, func(a, b api.Entry) int { return path.Compare(a.Path, b.Path) })
	return l
}

// allWidths are the widths that there are, and some that count as the nearest of them.
var allWidths = []int{math.MinInt, -1, 0, 1, 2, 3, 8, 16, 31, 32, 33, math.MaxInt}

// just fails unless err is just the number no, nil for api.OK, and tells no place.
func just(t *testing.T, call string, err error, no api.Errno) {
	t.Helper()
	if no == api.OK {
		if err != nil {
			t.Fatalf("%s is refused: %v", call, err)
		}
		return
	}
	onlyNumber(t, call, err, no)
	var fault api.Fault
	if errors.As(err, &fault) {
		t.Fatalf("%s: the error tells a place: %+v", call, fault)
	}
}

func onlyNumber(t *testing.T, call string, err error, no api.Errno) {
	t.Helper()
	for other := api.ErrArg; other <= api.ErrEmpty; other++ {
		if errors.Is(err, other) != (other == no) {
			t.Fatalf("%s: the error is %v, not %v", call, err, no)
		}
	}
}

// placed fails unless err is just the number no, at the entry with the number at.
func placed(t *testing.T, call string, err error, no api.Errno, at int) {
	t.Helper()
	onlyNumber(t, call, err, no)
	var fault api.Fault
	if !errors.As(err, &fault) || fault != (api.Fault{No: no, At: at}) {
		t.Fatalf("%s: the error tells %+v, not %d at %d", call, fault, no, at)
	}
}

func rootOf(t *testing.T, width int, l []api.Entry) api.Digest {
	t.Helper()
	d, err := merkle.Root(width, l)
	just(t, "Root", err, api.OK)
	return d
}

func proofOf(t *testing.T, width int, l []api.Entry, p string) api.Proof {
	t.Helper()
	x, err := merkle.Prove(width, l, p)
	just(t, "Prove of "+p, err, api.OK)
	return x
}

// tells fails unless the texts of a tree are these, and its root is the digest of the last one.
func tells(t *testing.T, width int, l []api.Entry, want ...string) {
	t.Helper()
	got, err := merkle.Texts(width, l)
	just(t, "Texts", err, api.OK)
	if !slices.Equal(got, want) {
		t.Fatalf("Texts of %.500v are %.1000q, not %.1000q", l, got, want)
	}
	if d := rootOf(t, width, l); d != plainSum(width, want[len(want)-1]) {
		t.Fatalf("Root of %.500v is %x", l, d)
	}
}

// sameProof holds two proofs against each other; lists of none are the same.
func sameProof(a, b api.Proof) bool {
	return slices.EqualFunc(a.Levels, b.Levels, func(a, b api.Level) bool {
		return a.Mode == b.Mode && slices.Equal(a.Names, b.Names) && slices.Equal(a.Digests, b.Digests)
	})
}

// agree fails unless all calls of a tree answer as the second telling does, and what is proved is accepted (P9.5).
func agree(t *testing.T, width int, l []api.Entry) {
	t.Helper()
	tells(t, width, l, plainTexts(width, l)...)
	root := rootOf(t, width, l)
	for _, e := range append(list(plainRoot), l...) {
		x := proofOf(t, width, l, e.Path)
		if want, _ := plainProof(width, l, e.Path); !sameProof(x, want) {
			t.Fatalf("Prove of %q in %v is %v, not %v", e.Path, l, x, want)
		}
		just(t, "Verify of "+e.Path, merkle.Verify(width, root, e, plainDigest(width, l, e), x), api.OK)
	}
}

// The chapter's table of examples.
func TestExamples(t *testing.T) {
	tells(t, 32, nil, "3:dir3:755")
	f := "4:file3:64432:" + bytesOf(plainSum(32, "x"))
	tells(t, 32, list(file("a", "x")), "x", f, "3:dir3:7551:a32:"+bytesOf(plainSum(32, f)))
	l, link2 := list(dir("d"), link("d/l", "y")), "4:link1:y"
	d := "3:dir3:7551:l32:" + bytesOf(plainSum(32, link2))
	root := "3:dir3:7551:d32:" + bytesOf(plainSum(32, d))
	tells(t, 32, l, d, link2, root)
	want := api.Proof{Levels: []api.Level{
		{Mode: 493, Names: []string{"l"}, Digests: []api.Digest{plainSum(32, link2)}},
		{Mode: 493, Names: []string{"d"}, Digests: []api.Digest{plainSum(32, d)}},
	}}
	if x := proofOf(t, 32, l, "d/l"); !reflect.DeepEqual(x, want) {
		t.Errorf("Prove of d/l is %v", x)
	}
	if x := proofOf(t, 32, l, ""); len(x.Levels) != 0 {
		t.Errorf("Prove of the root is %v", x)
	}
	if x := proofOf(t, 32, l, "d"); !reflect.DeepEqual(x.Levels, want.Levels[1:]) {
		t.Errorf("Prove of d is %v", x)
	}
	_, err := merkle.Prove(32, l, "x")
	just(t, "Prove of x", err, api.ErrNone)
	sum, zero := plainSum(32, root), api.Digest{}
	just(t, "d/l", merkle.Verify(32, sum, l[1], zero, want), api.OK)
	just(t, "a link to z", merkle.Verify(32, sum, link("d/l", "z"), zero, want), api.ErrSum)
	just(t, "another root", merkle.Verify(32, zero, l[1], zero, want), api.ErrSum)
	just(t, "the first level alone", merkle.Verify(32, sum, l[1], zero, api.Proof{Levels: want.Levels[:1]}), api.ErrForm)
	just(t, "d/k", merkle.Verify(32, sum, link("d/k", "y"), zero, want), api.ErrNone)
	just(t, "the root", merkle.Verify(32, sum, dir(""), sum, api.Proof{}), api.OK)
	want.Levels[0].Names[0] = "m"
	just(t, "names changed", merkle.Verify(32, sum, l[1], zero, want), api.ErrNone)
}

// P9.1, P9.2

func TestTextsOfFiles(t *testing.T) {
	for _, x := range []struct {
		mode int
		want string
	}{{0, "1:0"}, {1, "1:1"}, {7, "1:7"}, {8, "2:10"}, {63, "2:77"}, {64, "3:100"}, {420, "3:644"}, {511, "3:777"}, {512, "4:1000"}, {4095, "4:7777"}} {
		for _, data := range []string{"", "x", "\x00\xff", strings.Repeat("y", 1000)} {
			text := "4:file" + x.want + "32:" + bytesOf(plainSum(32, data))
			tells(t, 32, list(fileOf("f", x.mode, data)), data, text, "3:dir3:7551:f32:"+bytesOf(plainSum(32, text)))
		}
		text := "3:dir" + x.want
		tells(t, 32, list(dirOf("d", x.mode)), text, "3:dir3:7551:d32:"+bytesOf(plainSum(32, text)))
	}
}

func TestTextsOfLinks(t *testing.T) {
	for _, to := range []string{"a", "/", "../../x", "3:dir3:755", "\xff\x01", strings.Repeat("z", 100)} {
		text := fmt.Sprintf("4:link%d:%s", len(to), to)
		tells(t, 32, list(link("l", to)), text, "3:dir3:7551:l32:"+bytesOf(plainSum(32, text)))
	}
}

// What stands in a directory stands in its text by rising names, whatever lies below it, and nothing else does.
func TestTextsOfDirectories(t *testing.T) {
	names := []string{"a", "a.b", "a-", "a0", "ab", "B", "\xff", "\xc3\xa9", "\x01", "...", "3:x", strings.Repeat("n", 96)}
	var l []api.Entry
	for i, name := range names {
		l = append(l, dirOf(name, 4095-i), file(name+"/a", name), dir(name+"/b"), link(name+"/b/a", "x"), file(name+"/b.", ""))
	}
	l = inOrder(l...)
	agree(t, 32, l)
	slices.Sort(names)
	root := proofOf(t, 32, l, "a").Levels[0]
	if !slices.Equal(root.Names, names) || root.Mode != 493 {
		t.Errorf("the root's level is %v", root)
	}
	x := proofOf(t, 32, l, "a.b/b/a")
	if len(x.Levels) != 3 || !slices.Equal(x.Levels[0].Names, []string{"a"}) || !slices.Equal(x.Levels[1].Names, []string{"a", "b", "b."}) || x.Levels[1].Mode != 4094 {
		t.Errorf("Prove of a.b/b/a is %v", x)
	}
}

func TestRootOfEveryWidth(t *testing.T) {
	l := list(dir("d"), dirOf("d/e", 0), file("d/e/f", "data"), link("d/l", "e"), file("f", ""))
	for _, width := range allWidths {
		agree(t, width, l)
		agree(t, width, nil)
		d := rootOf(t, width, l)
		for i := max(1, min(width, 32)); i < 32; i++ {
			if d[i] != 0 {
				t.Errorf("Root of width %d is %x", width, d)
			}
		}
	}
}

// Each thing that a tree has is seen in its root.
func TestUnlikeTreesHaveUnlikeRoots(t *testing.T) {
	trees := [][]api.Entry{
		nil,
		list(dir("a")), list(dirOf("a", 492)), list(dir("b")), list(dir("a"), dir("b")), list(dir("a"), dir("a/b")),
		list(file("a", "")), list(fileOf("a", 421, "")), list(file("a", "x")), list(file("a", "y")), list(file("b", "x")), list(file("a", "3:dir3:755")),
		list(link("a", "x")), list(link("a", "y")), list(link("b", "x")), list(dir("a"), link("a/a", "x")), list(dir("a"), link("a/b", "x")),
		list(file("a", "x"), file("b", "x")), list(file("a", "x"), file("b", "y")), list(file("a", "y"), file("b", "x")),
		list(dir("a"), file("a/f", "x"), dir("b")), list(dir("a"), dir("b"), file("b/f", "x")), list(dir("a"), dir("a/b"), file("a/b/f", "x")),
	}
	for i, a := range trees {
		for j, b := range trees {
			if (rootOf(t, 32, a) == rootOf(t, 32, b)) != (i == j) {
				t.Errorf("%v and %v: one root, or two", a, b)
			}
		}
	}
}

// big is a tree of as many entries as there may be, which has the given directories.
func big(dirs ...string) []api.Entry {
	var l []api.Entry
	for _, p := range dirs {
		l = append(l, dir(p))
	}
	for i := range 4096 - len(dirs) {
		l = append(l, file(path.Join(dirs[i%len(dirs)], fmt.Sprintf("f%04d", i)), fmt.Sprint(i)))
	}
	return inOrder(l...)
}

func TestOfFullTrees(t *testing.T) {
	for _, dirs := range [][]string{{"d"}, {"d", "e", "d/e"}} {
		l := big(dirs...)
		root := rootOf(t, 32, l)
		texts, err := merkle.Texts(32, l)
		just(t, "Texts", err, api.OK)
		if len(texts) != 4096*2-len(dirs)+1 || plainSum(32, texts[len(texts)-1]) != root {
			t.Fatalf("there are %d texts", len(texts))
		}
		for i := 0; i < len(l); i += 500 {
			x := proofOf(t, 32, l, l[i].Path)
			d := x.Levels[0].Digests[slices.Index(x.Levels[0].Names, path.Last(l[i].Path))]
			just(t, l[i].Path, merkle.Verify(32, root, l[i], d, x), api.OK)
		}
	}
	var l []api.Entry
	for i := range 16 {
		l = append(l, file(fmt.Sprintf("f%02d", i), strings.Repeat(fmt.Sprint(i%10), 1<<20)))
	}
	agreeRoot(t, l)
	_, err := merkle.Root(32, append(l, file("g", "x")))
	placed(t, "a byte too many", err, api.ErrMany, 16)
	_, err = merkle.Root(32, append(big("d"), file("z", "")))
	placed(t, "an entry too many", err, api.ErrMany, 4096)
}

func agreeRoot(t *testing.T, l []api.Entry) {
	t.Helper()
	if got, want := rootOf(t, 32, l), plainDigest(32, l, plainRoot); got != want {
		t.Fatalf("Root is %x, not %x", got, want)
	}
}

// deepest is the directories a, a/a and so on, 31 of them, and the file behind them.
func deepest() []api.Entry {
	var l []api.Entry
	for n := range 31 {
		l = append(l, dirOf(strings.Repeat("a/", n)+"a", n*100))
	}
	return append(l, file(strings.Repeat("a/", 31)+"a", "x"))
}

func TestOfDeepTrees(t *testing.T) {
	l := deepest()
	agree(t, 32, l)
	x := proofOf(t, 32, l, l[31].Path)
	if len(x.Levels) != 32 || x.Levels[0].Mode != 3000 || x.Levels[30].Mode != 0 || x.Levels[31].Mode != 493 {
		t.Errorf("the proof of the deepest file is %v", x)
	}
}

// What tree.Check says, Root, Texts and Prove say, whatever path is asked for.
func TestOfNoTree(t *testing.T) {
	for _, x := range []struct {
		l  []api.Entry
		no api.Errno
		at int
	}{
		{list(api.Entry{}), api.ErrKind, 0},
		{list(dir("")), api.ErrRoot, 0},
		{list(dir("a"), file("", "x")), api.ErrRoot, 1},
		{list(dir("a"), dir("a/..")), api.ErrName, 1},
		{list(dir(".wh.a")), api.ErrName, 0},
		{append(deepest(), file(strings.Repeat("a/", 32)+"a", "")), api.ErrPath, 32},
		{list(dirOf("a", 4096)), api.ErrMode, 0},
		{list(dir("a"), link("a/b", "")), api.ErrLink, 1},
		{list(file("a", strings.Repeat("x", 1<<20+1))), api.ErrMany, 0},
		{list(api.Entry{Path: "a", Kind: api.KDir, Mode: 493, Data: "x"}), api.ErrForm, 0},
		{list(dir("a"), dir("a")), api.ErrTwice, 1},
		{list(dir("a"), dir("c"), file("b", "")), api.ErrArg, 2},
		{list(dir("a"), file("a.b", "x"), file("a/b", "y")), api.ErrArg, 2},
		{list(dir("d"), file("x/y", "")), api.ErrNone, 1},
		{list(file("a", ""), file("a/b", "")), api.ErrDir, 1},
		{list(dirOf("a", -1), dir("a")), api.ErrMode, 0},
	} {
		d, err := merkle.Root(32, x.l)
		placed(t, "Root", err, x.no, x.at)
		texts, err := merkle.Texts(32, x.l)
		placed(t, "Texts", err, x.no, x.at)
		if d != (api.Digest{}) || len(texts) != 0 {
			t.Errorf("beside %v there are %x and %q", x.no, d, texts)
		}
		for _, p := range []string{"", "a", "none", "/"} {
			proof, err := merkle.Prove(32, x.l, p)
			placed(t, "Prove", err, x.no, x.at)
			if len(proof.Levels) != 0 {
				t.Errorf("beside %v there is %v", x.no, proof)
			}
		}
	}
}

// P9.3

func TestProveOfWhatIsNotThere(t *testing.T) {
	l := list(dir("a"), file("a/b", "x"), link("a/l", "b"), link("z", "a"))
	for _, p := range []string{
		"b", "a/", "/a", "/", "//", ".", "..", "./a", "a/.", "a//b", "a/c", "a/b/c", "a/l/", "z/b", "A", "a/b ", "\x00", "a\x00", ".wh.a", "a/.wh.b", strings.Repeat("a/", 100000),
	} {
		x, err := merkle.Prove(32, l, p)
		just(t, "Prove of "+p[:min(len(p), 50)], err, api.ErrNone)
		if len(x.Levels) != 0 {
			t.Errorf("beside an error there is %v", x)
		}
	}
	if _, err := merkle.Prove(32, nil, "a"); err != api.ErrNone {
		t.Errorf("Prove of a in the empty tree is %v", err)
	}
	if x := proofOf(t, 32, nil, ""); len(x.Levels) != 0 {
		t.Errorf("Prove of the empty tree's root is %v", x)
	}
}

// P9.4

// sample is a tree, and the proof of its file d/e/f.
func sample(t *testing.T) ([]api.Entry, api.Proof) {
	l := list(dirOf("d", 448), dirOf("d/e", 0), file("d/e/b", "y"), file("d/e/f", "x"), link("d/e/g", "f"), file("d/f", "z"), link("e", "d/e"))
	return l, proofOf(t, 32, l, "d/e/f")
}

// copied is a proof that shares nothing with x.
func copied(x api.Proof) api.Proof {
	var y api.Proof
	for _, l := range x.Levels {
		y.Levels = append(y.Levels, api.Level{Mode: l.Mode, Names: slices.Clone(l.Names), Digests: slices.Clone(l.Digests)})
	}
	return y
}

// changed is the proof x with one thing done to it.
func changed(x api.Proof, change func(l []api.Level)) api.Proof {
	y := copied(x)
	change(y.Levels)
	return y
}

type wrongOne struct {
	entry api.Entry
	no    api.Errno
}

// wrongOnes are entries that are wrong by themselves. Of those that are wrong in two ways the first way counts.
func wrongOnes() []wrongOne {
	much, deep := strings.Repeat("x", 1<<20+1), strings.Repeat("a/", 32)+"a"
	return []wrongOne{
		{api.Entry{}, api.ErrKind},
		{api.Entry{Kind: -1, Path: "..", Mode: -1, Data: much, Link: "\x00"}, api.ErrKind},
		{api.Entry{Kind: 4, Path: "d/e/f"}, api.ErrKind},
		{file("", "x"), api.ErrRoot},
		{link("", "x"), api.ErrRoot},
		{fileOf("", 4096, much), api.ErrRoot},
		{dir("/"), api.ErrName}, {dir("."), api.ErrName}, {dir("/d"), api.ErrName}, {file("d/e/f/", "x"), api.ErrName}, {file("d//f", "x"), api.ErrName}, {file("d/../f", "x"), api.ErrName},
		{file("d/e/.wh.f", "x"), api.ErrName}, {fileOf("d/\x00", -1, ""), api.ErrName}, {dirOf(strings.Repeat("a", 97), -1), api.ErrName}, {file(deep+"/..", ""), api.ErrName},
		{fileOf(deep, 4096, ""), api.ErrPath}, {dir(strings.Repeat("a/", 127) + "aa"), api.ErrPath},
		{fileOf("d/e/f", -1, "x"), api.ErrMode}, {fileOf("d/e/f", 4096, much), api.ErrMode}, {dirOf("d", 4096), api.ErrMode},
		{dirOf("", -1), api.ErrMode}, {dirOf("", 4096), api.ErrMode}, {dirOf("", math.MaxInt), api.ErrMode}, {dirOf("", math.MinInt), api.ErrMode},
		{api.Entry{Path: "l", Kind: api.KLink, Mode: 420}, api.ErrMode}, {api.Entry{Kind: api.KDir, Mode: 4096, Data: "x"}, api.ErrMode},
		{link("l", ""), api.ErrLink}, {link("l", strings.Repeat("x", 101)), api.ErrLink}, {link("l", "a\x00"), api.ErrLink}, {api.Entry{Path: "l", Kind: api.KLink, Mode: 511, Data: "x"}, api.ErrLink},
		{file("d/e/f", much), api.ErrMany}, {api.Entry{Path: "f", Kind: api.KFile, Data: much, Link: "x"}, api.ErrMany},
		{api.Entry{Path: "d", Kind: api.KDir, Data: "x"}, api.ErrForm}, {api.Entry{Path: "d", Kind: api.KDir, Link: "x"}, api.ErrForm},
		{api.Entry{Kind: api.KDir, Data: "x"}, api.ErrForm}, {api.Entry{Kind: api.KDir, Link: "x"}, api.ErrForm}, {api.Entry{Kind: api.KDir, Data: much}, api.ErrForm},
		{api.Entry{Path: "f", Kind: api.KFile, Link: "x"}, api.ErrForm}, {api.Entry{Path: "l", Kind: api.KLink, Mode: 511, Link: "x", Data: "x"}, api.ErrForm},
	}
}

// What is wrong with the entry is told ahead of what is wrong with the proof.
func TestVerifyOfWrongEntries(t *testing.T) {
	l, x := sample(t)
	root := rootOf(t, 32, l)
	bad := api.Proof{Levels: []api.Level{{Mode: -1, Names: []string{"b", "a", "a"}}}}
	for i, w := range wrongOnes() {
		for _, proof := range []api.Proof{x, {}, bad} {
			just(t, fmt.Sprint("the wrong entry ", i), merkle.Verify(32, root, w.entry, root, proof), w.no)
		}
	}
}

// Entries at the edges of what is right are right: what follows is the proof's lack.
func TestVerifyOfEntriesAtTheEdges(t *testing.T) {
	for _, e := range list(dirOf("a", 0), dirOf("a", 4095), fileOf("a", 0, ""), fileOf("a", 4095, strings.Repeat("x", 1<<20)), link("a", strings.Repeat("x", 100)), file(strings.Repeat("a", 96), ""), file("a/b", "x"), dir("a/b/c"), deepest()[31]) {
		just(t, e.Path, merkle.Verify(32, api.Digest{}, e, api.Digest{}, api.Proof{}), api.ErrForm)
		p := e.Path
		e.Path = path.Last(p)
		l := list(e)
		x := proofOf(t, 32, l, e.Path)
		just(t, e.Path, merkle.Verify(32, rootOf(t, 32, l), e, plainDigest(32, l, e), x), api.OK)
	}
	for _, mode := range []int{0, 1, 493, 4095} {
		d := plainSum(32, "any")
		just(t, "the root", merkle.Verify(32, d, dirOf("", mode), d, api.Proof{}), api.OK)
		just(t, "another root", merkle.Verify(32, api.Digest{}, dirOf("", mode), d, api.Proof{}), api.ErrSum)
		just(t, "the root with a level", merkle.Verify(32, d, dirOf("", mode), d, api.Proof{Levels: []api.Level{{}}}), api.ErrForm)
	}
}

// Each level's form is looked at ahead of what the first one holds.
func TestVerifyOfProofsWithoutForm(t *testing.T) {
	l, x := sample(t)
	root := rootOf(t, 32, l)
	for i := range 3 {
		for call, change := range map[string]func(l *api.Level){
			"no names":          func(l *api.Level) { l.Names = nil },
			"no digests":        func(l *api.Level) { l.Digests = nil },
			"a name more":       func(l *api.Level) { l.Names = append(l.Names, "\xff") },
			"a digest more":     func(l *api.Level) { l.Digests = append(l.Digests, api.Digest{}) },
			"a digest fewer":    func(l *api.Level) { l.Digests = l.Digests[1:] },
			"the mode -1":       func(l *api.Level) { l.Mode = -1 },
			"the mode 4096":     func(l *api.Level) { l.Mode = 4096 },
			"a great mode":      func(l *api.Level) { l.Mode = math.MaxInt },
			"a small mode":      func(l *api.Level) { l.Mode = math.MinInt },
			"one name twice":    func(l *api.Level) { l.Names[1] = l.Names[0] },
			"the last twice":    func(l *api.Level) { l.Names[len(l.Names)-1] = l.Names[len(l.Names)-2] },
			"names that fall":   func(l *api.Level) { slices.Reverse(l.Names); slices.Reverse(l.Digests) },
			"a last that falls": func(l *api.Level) { l.Names[len(l.Names)-1] = "" },
		} {
			y := changed(x, func(l []api.Level) { change(&l[i]) })
			for _, e := range list(l[3], file("d/e/none", "x"), file("d/e/f", "other"), dir("d/e/f"), link("x/y/z", "a")) {
				just(t, call, merkle.Verify(32, root, e, root, y), api.ErrForm)
			}
		}
	}
	for n := range 3 {
		just(t, "levels missing at the end", merkle.Verify(32, root, l[3], root, api.Proof{Levels: x.Levels[:n]}), api.ErrForm)
		just(t, "levels missing ahead", merkle.Verify(32, root, l[3], root, api.Proof{Levels: x.Levels[3-n:]}), api.ErrForm)
	}
	just(t, "a level more", merkle.Verify(32, root, l[3], root, api.Proof{Levels: append(slices.Clone(x.Levels), x.Levels[2])}), api.ErrForm)
	just(t, "a level more ahead", merkle.Verify(32, root, l[3], root, api.Proof{Levels: append([]api.Level{{}}, x.Levels...)}), api.ErrForm)
	just(t, "the path is shorter", merkle.Verify(32, root, file("e/f", "x"), root, x), api.ErrForm)
	just(t, "the path is longer", merkle.Verify(32, root, file("c/d/e/f", "x"), root, x), api.ErrForm)
}

func TestVerifyGoesUpLevelByLevel(t *testing.T) {
	l, x := sample(t)
	root := rootOf(t, 32, l)
	check := func(call string, e api.Entry, x api.Proof, no api.Errno) {
		t.Helper()
		just(t, call, merkle.Verify(32, root, e, plainSum(32, "below"), x), no)
	}
	check("as it is", l[3], x, api.OK)
	check("another mode", fileOf("d/e/f", 421, "x"), x, api.ErrSum)
	check("other Data", file("d/e/f", "xx"), x, api.ErrSum)
	check("another kind", link("d/e/f", "x"), x, api.ErrSum)
	check("what stands beside it", file("d/e/b", "x"), x, api.ErrSum)
	check("no such name in the first level", file("d/e/h", "x"), x, api.ErrNone)
	check("no such name in the second level", file("d/g/f", "x"), x, api.ErrNone)
	check("no such name in the third level", file("f/e/f", "x"), x, api.ErrNone)
	check("another directory with that name", file("d/f/f", "x"), x, api.ErrSum)
	check("another name at the top", file("e/e/f", "x"), x, api.ErrSum)
	check("the first level comes first: ErrSum", file("d/g/f", "y"), x, api.ErrSum)
	check("the first level comes first: ErrNone", file("d/f/h", "x"), x, api.ErrNone)
	check("the second level comes ahead of the third: ErrSum", file("z/f/f", "x"), x, api.ErrSum)
	check("the second level comes ahead of the third: ErrNone", file("e/z/f", "x"), x, api.ErrNone)
	for i := range 3 {
		check("another mode of a level", l[3], changed(x, func(l []api.Level) { l[i].Mode ^= 1 }), api.ErrSum)
		check("another digest beside", l[3], changed(x, func(l []api.Level) { l[i].Digests[len(l[i].Digests)-1][31] ^= 1 }), api.ErrSum)
		check("another digest ahead", l[3], changed(x, func(l []api.Level) { l[i].Digests[0][0] ^= 1 }), api.ErrSum)
		check("another name at the end", l[3], changed(x, func(l []api.Level) {
			l[i].Names = append(l[i].Names, "z")
			l[i].Digests = append(l[i].Digests, api.Digest{})
		}), api.ErrSum)
		check("an empty level", l[3], changed(x, func(l []api.Level) { l[i] = api.Level{} }), api.ErrNone)
	}
	check("levels in another order", l[3], changed(x, func(l []api.Level) { l[0], l[1] = l[1], l[0] }), api.ErrSum)
	just(t, "another root", merkle.Verify(32, api.Digest{}, l[3], api.Digest{}, x), api.ErrSum)
}

// below is looked at of a directory alone; the mode of a directory, and whether it is one, isn't.
func TestVerifyOfDirectories(t *testing.T) {
	l, x := sample(t)
	root := rootOf(t, 32, l)
	up := api.Proof{Levels: x.Levels[1:]}
	e, b := plainDigest(32, l, l[1]), plainDigest(32, l, l[3])
	for _, mode := range []int{0, 493, 4095} {
		just(t, "d/e", merkle.Verify(32, root, dirOf("d/e", mode), e, up), api.OK)
		just(t, "a file as a directory", merkle.Verify(32, root, dirOf("d/e/f", mode), b, x), api.OK)
		just(t, "another below", merkle.Verify(32, root, dirOf("d/e", mode), b, up), api.ErrSum)
		just(t, "no below", merkle.Verify(32, root, dirOf("d/e", mode), api.Digest{}, up), api.ErrSum)
		just(t, "no such name", merkle.Verify(32, root, dirOf("d/x", mode), e, up), api.ErrNone)
		just(t, "a file in the directory's place", merkle.Verify(32, root, fileOf("d/e", mode, ""), e, up), api.ErrSum)
	}
	for _, below := range []api.Digest{{}, b, e, root} {
		just(t, "a file, whatever below is", merkle.Verify(32, root, l[3], below, x), api.OK)
	}
}

// The names of a level may be any texts that rise, and its digests any.
func TestVerifyOfLevelsThatNoTreeHas(t *testing.T) {
	f := file("f", "x")
	d := plainDigest(2, nil, f)
	wide := plainSum(32, "wide")
	for _, names := range [][]string{{"", "f"}, {"..", "f"}, {"f", "f/f"}, {"\x00", "f"}, {".wh.f", "f", strings.Repeat("x", 1000)}, {"/", "f"}} {
		l := api.Level{Mode: 4095, Names: names, Digests: slices.Repeat([]api.Digest{wide}, len(names))}
		l.Digests[slices.Index(names, "f")] = d
		x := api.Proof{Levels: []api.Level{l}}
		just(t, "a file", merkle.Verify(2, plainSum(2, plainLevel(l)), f, wide, x), api.OK)
		just(t, "another root", merkle.Verify(2, plainSum(32, plainLevel(l)), f, wide, x), api.ErrSum)
		l.Digests[slices.Index(names, "f")] = wide
		just(t, "a file", merkle.Verify(2, plainSum(2, plainLevel(l)), f, wide, x), api.ErrSum)
		just(t, "a directory with a digest of no such width", merkle.Verify(2, plainSum(2, plainLevel(l)), dir("f"), wide, x), api.OK)
	}
}

func TestVerifyOfEveryWidth(t *testing.T) {
	l, _ := sample(t)
	for _, width := range allWidths {
		for _, other := range allWidths {
			x, root := proofOf(t, width, l, "d/e/f"), rootOf(t, width, l)
			no := api.ErrSum
			if max(1, min(width, 32)) == max(1, min(other, 32)) {
				no = api.OK
			}
			just(t, fmt.Sprint("width ", width, " as ", other), merkle.Verify(other, root, l[3], root, x), no)
		}
	}
}

// R4

// Neither the arguments nor what stands in their spare room is changed, and no answer shares anything with another one.
func TestMemory(t *testing.T) {
	l, x := sample(t)
	l = append(make([]api.Entry, 0, 2*len(l)), l...)
	spare := func() []api.Entry { return slices.Clone(l[:cap(l)]) }
	before, root := spare(), rootOf(t, 32, l)
	texts, err := merkle.Texts(32, l)
	just(t, "Texts", err, api.OK)
	again := copied(x)
	for i := range texts[:cap(texts)] {
		texts[:cap(texts)][i] = "spoiled"
	}
	for _, level := range x.Levels[:cap(x.Levels)] {
		names, digests := level.Names[:cap(level.Names)], level.Digests[:cap(level.Digests)]
		for i := range names {
			names[i] = "spoiled"
		}
		for i := range digests {
			digests[i] = plainSum(32, "spoiled")
		}
	}
	tells(t, 32, l, plainTexts(32, l)...)
	if y := proofOf(t, 32, l, "d/e/f"); !sameProof(y, again) || !slices.Equal(spare(), before) {
		t.Errorf("Prove is another one behind the first, or the tree is")
	}
	if x.Levels[0].Names[0] != "spoiled" || x.Levels[2].Names[0] != "spoiled" {
		t.Errorf("the first answer was changed")
	}
	for i := range again.Levels {
		level := &again.Levels[i]
		level.Names = append(level.Names, "z", "y")[:len(level.Names)]
		level.Digests = append(level.Digests, root, root)[:len(level.Digests)]
	}
	want := copied(again)
	just(t, "Verify", merkle.Verify(32, root, l[3], api.Digest{}, again), api.OK)
	just(t, "Verify of other Data", merkle.Verify(32, root, file("d/e/f", "y"), api.Digest{}, again), api.ErrSum)
	if !sameProof(again, want) {
		t.Errorf("Verify changed its proof")
	}
	for _, level := range again.Levels {
		n := len(level.Names)
		if level.Names[:n+2][n] != "z" || level.Names[:n+2][n+1] != "y" || level.Digests[:n+1][n] != root {
			t.Errorf("Verify changed its proof's spare room")
		}
	}
}

// Two lists of one proof share nothing: what is put behind one of them isn't seen in another.
func TestListsOfAProofShareNothing(t *testing.T) {
	l, x := sample(t)
	want := copied(x)
	for i := range x.Levels {
		_ = append(x.Levels[i].Names, "a", "b", "c", "d")
		_ = append(x.Levels[i].Digests, api.Digest{}, api.Digest{}, api.Digest{}, api.Digest{})
		if !sameProof(x, want) {
			t.Fatalf("what was put behind level %d is seen", i)
		}
	}
	agree(t, 32, l)
}

// P9.5 to P9.7

// somePath is a path of few names, so that paths meet.
func somePath(r *rand.Rand) string {
	names := []string{"a", "b", "a.b", "ab", "\xff"}
	p := names[r.Intn(len(names))]
	for r.Intn(2) > 0 {
		p += "/" + names[r.Intn(len(names))]
	}
	return p
}

func someEntry(r *rand.Rand, p string) api.Entry {
	return list(dirOf(p, r.Intn(4096)), dir(p), fileOf(p, r.Intn(4096), strings.Repeat("x", r.Intn(4))), file(p, fmt.Sprint(r.Intn(50))), link(p, "to"+fmt.Sprint(r.Intn(50))))[r.Intn(5)]
}

func someTree(r *rand.Rand, many int) []api.Entry {
	x := tree.New()
	for range r.Intn(many) {
		x.Put(someEntry(r, somePath(r)))
	}
	return x.List()
}

func TestTreesAgainstTheSecondTelling(t *testing.T) {
	r := rand.New(rand.NewSource(9))
	for range 400 {
		l := someTree(r, 40)
		width := allWidths[r.Intn(len(allWidths))]
		agree(t, width, l)
		for range 5 {
			p := somePath(r)
			x, err := merkle.Prove(width, l, p)
			want, no := plainProof(width, l, p)
			just(t, "Prove of "+p, err, no)
			if !sameProof(x, want) {
				t.Fatalf("Prove of %q in %v is %v, not %v", p, l, x, want)
			}
		}
	}
}

// bend does something to a proof; often it is one no longer.
func bend(r *rand.Rand, x api.Proof) api.Proof {
	y := copied(x)
	if len(y.Levels) == 0 {
		return y
	}
	l := &y.Levels[r.Intn(len(y.Levels))]
	i := r.Intn(len(l.Names) + 1)
	switch r.Intn(7) {
	case 0:
		l.Mode = r.Intn(4200) - 50
	case 1:
		l.Names = slices.Insert(l.Names, i, []string{"", "a", "z", "\xff\xff"}[r.Intn(4)])
		l.Digests = append(l.Digests, api.Digest{})
	case 2:
		l.Names = l.Names[:i]
		l.Digests = l.Digests[:min(i, len(l.Digests))]
	case 3:
		l.Digests = l.Digests[:min(i, len(l.Digests))]
	case 4:
		if i < len(l.Digests) {
			l.Digests[i][r.Intn(32)] ^= 1
		}
	case 5:
		y.Levels = slices.Insert(y.Levels, r.Intn(len(y.Levels)+1), api.Level{Mode: 493, Names: []string{"a"}, Digests: make([]api.Digest, 1)})
	case 6:
		y.Levels = y.Levels[r.Intn(2):]
	}
	return y
}

func TestVerifyAgainstTheSecondTelling(t *testing.T) {
	r := rand.New(rand.NewSource(10))
	met := map[api.Errno]int{}
	for range 400 {
		l := append(someTree(r, 20), plainRoot)
		e := l[r.Intn(len(l))]
		l = l[:len(l)-1]
		width := allWidths[r.Intn(len(allWidths))]
		root, below := plainDigest(width, l, plainRoot), plainDigest(width, l, e)
		x := proofOf(t, width, l, e.Path)
		for range 25 {
			y, f := x, e
			for range r.Intn(2) {
				y = bend(r, y)
			}
			switch r.Intn(12) {
			case 0:
				f = someEntry(r, f.Path)
			case 1:
				f.Path = somePath(r)
			case 2:
				f.Mode = []int{-1, 4096, 511, 0}[r.Intn(4)]
			case 3:
				f.Kind = api.Kind(r.Intn(5))
			case 4:
				f.Data += "d"
			case 5:
				f.Link += []string{"l", "\x00"}[r.Intn(2)]
			}
			want := plainVerify(width, root, f, below, y)
			met[want]++
			just(t, fmt.Sprintf("Verify of %v with %v", f, y), merkle.Verify(width, root, f, below, y), want)
		}
	}
	for _, no := range []api.Errno{api.OK, api.ErrKind, api.ErrRoot, api.ErrMode, api.ErrLink, api.ErrForm, api.ErrNone, api.ErrSum} {
		if met[no] < 20 {
			t.Errorf("%v was met %d times", no, met[no])
		}
	}
}

// there tells whether what Verify accepted is so of the tree (P9.6).
func there(width int, l []api.Entry, e api.Entry, below api.Digest) bool {
	at, found := plainAt(l, e.Path)
	if e.Kind == api.KDir {
		return found && plainDigest(width, l, at) == below
	}
	return found && at == e
}

// accepted fails unless what Verify accepts is there, or a clash is found; it tells whether something was accepted that isn't there.
func accepted(t *testing.T, width int, l []api.Entry, e api.Entry, below api.Digest, x api.Proof) bool {
	t.Helper()
	root := rootOf(t, width, l)
	if merkle.Verify(width, root, e, below, x) != nil || there(width, l, e, below) {
		return false
	}
	texts, err := merkle.Texts(width, l)
	just(t, "Texts", err, api.OK)
	if _, _, found := digest.Clash(width, append(texts, plainTaken(width, e, x)...)); !found {
		t.Fatalf("Verify of %v, below %x, with %v accepts what is not in %v, without a clash", e, below, x, l)
	}
	return true
}

// forged is a proof of an entry that needn't be there: at each level its name has the digest that comes from below, beside others.
func forged(r *rand.Rand, width int, e api.Entry, below api.Digest) api.Proof {
	d := below
	if e.Kind != api.KDir {
		d = plainDigest(width, nil, e)
	}
	var x api.Proof
	for p := e.Path; p != ""; p = path.Parent(p) {
		l := api.Level{Mode: r.Intn(4096), Names: []string{path.Last(p)}, Digests: []api.Digest{d}}
		if r.Intn(2) > 0 {
			l.Names, l.Digests = append(l.Names, "\xff\xff"), append(l.Digests, plainSum(width, fmt.Sprint(r.Intn(1000))))
		}
		x.Levels = append(x.Levels, l)
		d = plainSum(width, plainLevel(l))
	}
	return x
}

func TestWhatIsAcceptedIsThereOrClashes(t *testing.T) {
	r := rand.New(rand.NewSource(11))
	forgeries, clashes := 0, 0
	for range 60 {
		l := someTree(r, 12)
		for range 200 {
			e := someEntry(r, somePath(r))
			below := plainSum(1, fmt.Sprint(r.Intn(1000)))
			if accepted(t, 1, l, e, below, forged(r, 1, e, below)) {
				forgeries++
			}
		}
		for _, at := range l {
			x := proofOf(t, 1, l, at.Path)
			for range 100 {
				if accepted(t, 1, l, someEntry(r, at.Path), plainDigest(1, l, at), x) {
					clashes++
				}
			}
		}
	}
	if forgeries < 10 || clashes < 10 {
		t.Errorf("%d forgeries and %d clashes were met", forgeries, clashes)
	}
}

func TestUnlikeTreesWithOneRootClash(t *testing.T) {
	r := rand.New(rand.NewSource(12))
	met := 0
	for _, width := range []int{0, 1, 2} {
		firsts := map[api.Digest][]api.Entry{}
		for range 2500 {
			a := someTree(r, 8)
			root := rootOf(t, width, a)
			b, known := firsts[root]
			firsts[root] = a
			if !known || slices.Equal(a, b) {
				continue
			}
			met++
			one, _ := merkle.Texts(width, a)
			two, _ := merkle.Texts(width, b)
			if _, _, found := digest.Clash(width, append(one, two...)); !found {
				t.Fatalf("%v and %v have one root, without a clash", a, b)
			}
		}
	}
	if met < 1000 {
		t.Errorf("%d unlike trees with one root were met", met)
	}
}

// R1

func TestWidthsAndArgumentsOfAllSorts(t *testing.T) {
	odd := []api.Proof{{}, {Levels: []api.Level{}}, {Levels: make([]api.Level, 1)}, {Levels: make([]api.Level, 1000)}, {Levels: []api.Level{{Names: []string{""}, Digests: make([]api.Digest, 1)}}}}
	for _, width := range allWidths {
		for _, e := range list(api.Entry{}, dir(""), dir("a"), file("a", ""), link("a", "a"), file("a/b", "x")) {
			for _, x := range odd {
				want := plainVerify(width, api.Digest{}, e, api.Digest{}, x)
				just(t, fmt.Sprint(e, x.Levels), merkle.Verify(width, api.Digest{}, e, api.Digest{}, x), want)
			}
		}
	}
}
