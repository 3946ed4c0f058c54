package path_test

import (
	"errors"
	"iter"
	"slices"
	"strings"
	"testing"

	"strata/api"
	"strata/path"
)

// wantError fails unless the call's err is just the number no and tells no place; for api.OK, unless it is nil.
func wantError(t *testing.T, call, text string, err error, no api.Errno) {
	t.Helper()
	if no == api.OK {
		if err != nil {
			t.Errorf("%s(%.300q) is refused: %v", call, text, err)
		}
		return
	}
	for other := api.ErrArg; other <= api.ErrEmpty; other++ {
		if errors.Is(err, other) != (other == no) {
			t.Errorf("%s(%.300q): the error is %v, not %v", call, text, err, no)
			return
		}
	}
	var fault api.Fault
	if errors.As(err, &fault) {
		t.Errorf("%s(%.300q): the error tells a place", call, text)
	}
}

func wantName(t *testing.T, text string, no api.Errno) {
	t.Helper()
	wantError(t, "Name", text, path.Name(text), no)
}

func wantCheck(t *testing.T, text string, no api.Errno) {
	t.Helper()
	wantError(t, "Check", text, path.Check(text), no)
}

// run is a text of n bytes b.
func run(b string, n int) string { return strings.Repeat(b, n) }

// names is n names `a` with slashes between.
func names(n int) string { return run("a/", n-1) + "a" }

// textsOf are all texts of at most n bytes of the alphabet.
func textsOf(alphabet string, n int) []string {
	all := []string{""}
	longest := all
	for range n {
		var next []string
		for _, s := range longest {
			for i := range len(alphabet) {
				next = append(next, s+alphabet[i:i+1])
			}
		}
		all = append(all, next...)
		longest = next
	}
	return all
}

// edgePaths are texts of one to four names whose lengths lie at the edges of all limits.
func edgePaths() []string {
	lengths := []int{1, 4, 37, 38, 39, 56, 57, 58, 59, 60, 61, 93, 94, 95, 96, 97}
	longest := []string{""}
	var all []string
	for depth := range 4 {
		var next []string
		for _, dir := range longest {
			for _, n := range lengths {
				next = append(next, path.Join(dir, run(string("abcd"[depth]), n)))
			}
		}
		all = append(all, next...)
		longest = next
	}
	for n := 1; n <= api.MaxDepth+2; n++ {
		all = append(all, names(n))
	}
	return all
}

func whiteout(p string) string {
	return p[:strings.LastIndex(p, "/")+1] + ".wh." + p[strings.LastIndex(p, "/")+1:]
}

type sample struct {
	text string
	no   api.Errno
}

// P1.1

func TestNameSamples(t *testing.T) {
	for _, x := range []sample{
		{"a", api.OK},
		{"...", api.OK},
		{".wh", api.OK},
		{".whx", api.OK},
		{"wh.", api.OK},
		{"a.wh.b", api.OK},
		{".Wh.a", api.OK},
		{".a", api.OK},
		{"..a", api.OK},
		{" ", api.OK},
		{"\xff\xfe", api.OK},
		{"\u00e4\u00f6", api.OK},
		{run("a", 95), api.OK},
		{run("a", 96), api.OK},
		{run("\u00e4", 48), api.OK},
		{"", api.ErrName},
		{".", api.ErrName},
		{"..", api.ErrName},
		{"/", api.ErrName},
		{"a/b", api.ErrName},
		{"a/", api.ErrName},
		{"/a", api.ErrName},
		{".wh.", api.ErrName},
		{".wh.a", api.ErrName},
		{".wh..wh.", api.ErrName},
		{"\x00", api.ErrName},
		{"a\x00", api.ErrName},
		{"\x00a", api.ErrName},
		{run("a", 97), api.ErrName},
		{run("\u00e4", 49), api.ErrName},
		{run("a", 100000), api.ErrName},
	} {
		wantName(t, x.text, x.no)
	}
}

func TestNameTakesEveryByteButTwo(t *testing.T) {
	for b := range 256 {
		no := api.OK
		if b == 0 || b == '/' {
			no = api.ErrName
		}
		one := string([]byte{byte(b)})
		if one != "." {
			wantName(t, one, no)
		}
		wantName(t, "a"+one+"b", no)
		wantName(t, run("a", 95)+one, no)
	}
}

// P1.2

func TestCheckSamples(t *testing.T) {
	wide := run("b", 96)
	for _, x := range []sample{
		{"a", api.OK},
		{"a/b", api.OK},
		{"a/.wh", api.OK},
		{"", api.ErrRoot},
		{"/", api.ErrName},
		{"a//b", api.ErrName},
		{"/a", api.ErrName},
		{"a/", api.ErrName},
		{".", api.ErrName},
		{"a/../b", api.ErrName},
		{"a/./b", api.ErrName},
		{"a/.wh.b", api.ErrName},
		{".wh.a/b", api.ErrName},
		{"a/b\x00", api.ErrName},
		{run("b", 97), api.ErrName},
		{"a/" + run("b", 97), api.ErrName},
		{names(31), api.OK},
		{names(32), api.OK},
		{names(33), api.ErrPath},
		{wide, api.OK},
		{wide + "/" + wide, api.OK},
		{wide + "/" + wide + "/" + wide, api.ErrPath},
		{"a/" + wide, api.OK},
		{run("a", 94) + "/" + run("b", 60) + "/" + run("c", 38), api.OK},
		{run("a", 95) + "/" + run("b", 60) + "/" + run("c", 38), api.ErrPath},
		{run("a", 60) + "/" + run("b", 60) + "/" + run("c", 60), api.OK},
	} {
		wantCheck(t, x.text, x.no)
	}
}

func TestCheckOfLongTexts(t *testing.T) {
	// A header has room for a whiteout of 155, 1 and 100 bytes: that is 4 more than the longest path has.
	longest := run("a", 94) + "/" + run("b", 60) + "/" + run("c", 30) + "/" + run("d", 65)
	wantCheck(t, longest, api.OK)
	for _, n := range []int{253, 254, 255, 256, 257} {
		wantCheck(t, longest+run("d", n-252), api.ErrPath)
		wantCheck(t, "a"+longest+run("d", n-253), api.ErrPath)
	}
	for _, n := range []int{255, 256} {
		wantCheck(t, run("abcdefg/", 40)[:n-1]+"x", api.ErrPath)
	}
}

func TestCheckNamesFirst(t *testing.T) {
	wide := run("b", 96)
	for _, p := range []string{
		run("a/", 32) + "..",
		"../" + names(32),
		names(33) + "/",
		"/" + names(33),
		names(40) + "/.wh.a",
		wide + "/" + wide + "/" + wide + "/.",
		wide + "/" + wide + "/" + wide + "/" + run("b", 97),
		run("a/", 100000),
		run("a", 100000),
	} {
		wantCheck(t, p, api.ErrName)
	}
	wantCheck(t, names(100000), api.ErrPath)
}

// isPath is DOC.md's word for a path, in its own terms.
func isPath(p string) bool {
	pieces := strings.Split(p, "/")
	if len(pieces) > 32 || len(p) > 255 {
		return false
	}
	w := whiteout(p)
	if len(w) <= 100 {
		return true
	}
	for i := range len(w) {
		behind := len(w) - i - 1
		if w[i] == '/' && i <= 155 && behind >= 1 && behind <= 100 {
			return true
		}
	}
	return false
}

func TestCheckIsTheDocumentsWord(t *testing.T) {
	paths, refused := 0, 0
	for _, p := range edgePaths() {
		no := api.OK
		switch {
		case slices.ContainsFunc(strings.Split(p, "/"), func(s string) bool { return len(s) > 96 }):
			no = api.ErrName
		case !isPath(p):
			no = api.ErrPath
			refused++
		default:
			paths++
		}
		wantCheck(t, p, no)
	}
	if paths == 0 || refused == 0 {
		t.Errorf("%d paths and %d others were tried", paths, refused)
	}
}

// P1.3

func TestSplitSamples(t *testing.T) {
	a60, b60, c60 := run("a", 60), run("b", 60), run("c", 60)
	b100 := run("b", 100)
	for _, x := range []struct {
		text, prefix, name string
		no                 api.Errno
	}{
		{"", "", "", api.OK},
		{"a", "", "a", api.OK},
		{"/", "", "/", api.OK},
		{"a/b", "", "a/b", api.OK},
		{"a/", "", "a/", api.OK},
		{run("a", 99), "", run("a", 99), api.OK},
		{run("a", 100), "", run("a", 100), api.OK},
		{run("a", 50) + "/" + run("b", 49), "", run("a", 50) + "/" + run("b", 49), api.OK},
		{run("a", 99) + "/", "", run("a", 99) + "/", api.OK},
		{run("a", 101), "", "", api.ErrPath},
		{run("a", 100) + "/", "", "", api.ErrPath},
		{run("a", 101) + "/", "", "", api.ErrPath},
		{run("a", 50) + "/" + run("b", 50) + "/", run("a", 50), run("b", 50) + "/", api.OK},
		{"a/" + b100, "a", b100, api.OK},
		{"a/" + b100 + "b", "", "", api.ErrPath},
		{"/" + b100, "", "", api.ErrPath},
		{"/" + run("a", 50) + "/" + run("b", 49), "", "", api.ErrPath},
		{"//" + b100, "/", b100, api.OK},
		{run("a", 99) + "/b", run("a", 99), "b", api.OK},
		{run("a", 100) + "/b", run("a", 100), "b", api.OK},
		{run("a", 155) + "/b", run("a", 155), "b", api.OK},
		{run("a", 156) + "/b", "", "", api.ErrPath},
		{run("a", 155) + "/" + b100, run("a", 155), b100, api.OK},
		{run("a", 155) + "/" + b100 + "b", "", "", api.ErrPath},
		{run("a", 156) + "/" + run("b", 90), "", "", api.ErrPath},
		{run("a", 156) + "/" + b100, "", "", api.ErrPath},
		{a60 + "/" + b60 + "/" + c60, a60 + "/" + b60, c60, api.OK},
		{run("a", 30) + "/" + run("b", 30) + "/" + c60, run("a", 30), run("b", 30) + "/" + c60, api.OK},
		{"x/" + run("a", 50) + "//" + run("b", 48), "x", run("a", 50) + "//" + run("b", 48), api.OK},
	} {
		prefix, name, err := path.Split(x.text)
		wantError(t, "Split", x.text, err, x.no)
		if prefix != x.prefix || name != x.name {
			t.Errorf("Split of %q = %q, %q", x.text, prefix, name)
		}
	}
}

// splitByTheWords goes through all slashes, as the chapter's words do.
func splitByTheWords(p string) (string, string, api.Errno) {
	if len(p) <= 100 {
		return "", p, api.OK
	}
	for i := range len(p) {
		behind := len(p) - i - 1
		if p[i] != '/' || behind < 1 || behind > 100 {
			continue
		}
		if i < 1 || i > 155 {
			return "", "", api.ErrPath
		}
		return p[:i], p[i+1:], api.OK
	}
	return "", "", api.ErrPath
}

func TestSplitWhereverSlashesStand(t *testing.T) {
	for _, length := range []int{99, 100, 101, 102, 155, 156, 157, 200, 255, 256, 257, 258, 300} {
		for i := range length {
			for j := i; j < length; j++ {
				text := []byte(run("a", length))
				text[i], text[j] = '/', '/'
				prefix, name, err := path.Split(string(text))
				prefixThere, nameThere, no := splitByTheWords(string(text))
				wantError(t, "Split", string(text), err, no)
				if prefix != prefixThere || name != nameThere {
					t.Fatalf("Split of %q = %q, %q", text, prefix, name)
				}
			}
		}
	}
}

// P1.4

func TestParentAndLast(t *testing.T) {
	for _, x := range [][3]string{
		{"a/b/c", "a/b", "c"},
		{"a/b", "a", "b"},
		{"a", "", "a"},
		{"/a", "", "a"},
		{"a/", "a", ""},
		{"", "", ""},
		{"/", "", ""},
		{"//", "/", ""},
		{"a//b", "a/", "b"},
		{"a/..", "a", ".."},
		{"\x00/\xff", "\x00", "\xff"},
	} {
		if parent, last := path.Parent(x[0]), path.Last(x[0]); parent != x[1] || last != x[2] {
			t.Errorf("Parent and Last of %q = %q, %q", x[0], parent, last)
		}
	}
}

func TestJoin(t *testing.T) {
	for _, x := range [][3]string{
		{"a", "b", "a/b"},
		{"", "b", "b"},
		{"a", "", "a/"},
		{"", "", ""},
		{"a/", "b", "a//b"},
		{"a", "/b", "a//b"},
		{"/", "b", "//b"},
		{"a/b", "..", "a/b/.."},
	} {
		if got := path.Join(x[0], x[1]); got != x[2] {
			t.Errorf("Join(%q, %q) = %q", x[0], x[1], got)
		}
	}
}

// P1.5

func TestCleanSamples(t *testing.T) {
	for _, x := range [][2]string{
		{"/a/./b//c/", "a/b/c"},
		{"../a", "a"},
		{"a/../../b", "b"},
		{"a/..", ""},
		{".", ""},
		{"...", "..."},
		{"", ""},
		{"/", ""},
		{"..", ""},
		{"../..", ""},
		{"a/b/../c", "a/c"},
		{"a/b/../../c", "c"},
		{"a/b/c/../..", "a"},
		{"../a/../b", "b"},
		{"a/.../b", "a/.../b"},
		{".a/..b/c.", ".a/..b/c."},
		{"a/. /b", "a/. /b"},
		{"\x00/\xff", "\x00/\xff"},
		{".wh.a/./b", ".wh.a/b"},
	} {
		if got := path.Clean(x[0]); got != x[1] {
			t.Errorf("Clean of %q = %q, want %q", x[0], got, x[1])
		}
	}
}

func TestCleanOfVeryLongTexts(t *testing.T) {
	if got := path.Clean(run("a/", 100000) + run("../", 99999)); got != "a" {
		t.Errorf("%d bytes are left", len(got))
	}
	if got := path.Clean(run("../", 100000) + "b"); got != "b" {
		t.Errorf("%d bytes are left", len(got))
	}
}

// P1.6

func TestCompareSamples(t *testing.T) {
	for _, x := range []struct {
		a, b string
		want int
	}{
		{"a/b", "a.b", -1},
		{"a", "a/b", -1},
		{"b", "a/z", 1},
		{"a", "a", 0},
		{"", "a", -1},
		{"", "/", -1},
		{"", "", 0},
		{"/", "//", -1},
		{"a/", "a", 1},
		{"a/", "a/b", -1},
		{"a//b", "a/b", -1},
		{"/b", "a", -1},
		{"a/b/c", "a/b", 1},
		{"a/b/c", "a/c", -1},
		{"ab", "a/b", 1},
		{"a\x00", "a/b", 1},
		{"a", "ab", -1},
		{"aa", "ab", -1},
		{"a/x", "ab/a", -1},
		{"z", "\x80", -1},
		{"\xff", "\x7f", 1},
		{"B", "a", -1},
		{"a10", "a9", -1},
	} {
		if got := path.Compare(x.a, x.b); got != x.want {
			t.Errorf("Compare(%q, %q) = %d", x.a, x.b, got)
		}
		if got := path.Compare(x.b, x.a); got != -x.want {
			t.Errorf("Compare(%q, %q) = %d", x.b, x.a, got)
		}
	}
}

func TestComparePieceByPiece(t *testing.T) {
	texts := textsOf("./a\xff", 4)
	for _, a := range texts {
		for _, b := range texts {
			want := slices.Compare(strings.Split(a, "/"), strings.Split(b, "/"))
			if got := path.Compare(a, b); got != want {
				t.Fatalf("Compare(%q, %q) = %d", a, b, got)
			}
		}
	}
}

// P1.7

func TestBelow(t *testing.T) {
	for _, x := range []struct {
		dir, p string
		want   bool
	}{
		{"", "a", true},
		{"", "", false},
		{"", "/", true},
		{"a", "a/b", true},
		{"a", "a", false},
		{"a", "ab", false},
		{"a", "a/", true},
		{"a", "", false},
		{"ab", "a", false},
		{"a/b", "a", false},
		{"a", "a.b", false},
		{"a", "b/a/c", false},
		{"a/b", "a/b/c/d", true},
		{"a/b", "a/bc", false},
		{"a/", "a/b", false},
		{"a/", "a//b", true},
		{"/", "/a", false},
		{"/", "//", true},
		{"A", "a/b", false},
	} {
		if got := path.Below(x.dir, x.p); got != x.want {
			t.Errorf("Below(%q, %q) = %v", x.dir, x.p, got)
		}
	}
}

func TestBelowAgainstItsWords(t *testing.T) {
	texts := textsOf("./a", 5)
	for _, dir := range texts {
		for _, p := range texts {
			want := strings.HasPrefix(p, dir+"/")
			if dir == "" {
				want = p != ""
			}
			if got := path.Below(dir, p); got != want {
				t.Fatalf("Below(%q, %q) = %v", dir, p, got)
			}
		}
	}
}

// P1.8

func wantPieces(t *testing.T, text string, pieces iter.Seq[string], want []string) {
	t.Helper()
	if got := slices.Collect(pieces); !slices.Equal(got, want) {
		t.Errorf("Pieces of %q are %q, want %q", text, got, want)
	}
}

func TestPieces(t *testing.T) {
	for _, x := range []struct {
		text string
		want []string
	}{
		{"/a//b/", []string{"a", "b"}},
		{".", []string{"."}},
		{"", nil},
		{"///", nil},
		{"a", []string{"a"}},
		{"a/../.wh.b/.", []string{"a", "..", ".wh.b", "."}},
		{"b/a/b", []string{"b", "a", "b"}},
		{"\x00/\xff", []string{"\x00", "\xff"}},
	} {
		pieces := path.Pieces(x.text)
		wantPieces(t, x.text, pieces, x.want)
		wantPieces(t, x.text, pieces, x.want)
	}
}

func TestPiecesAreLeftAndBegunAnew(t *testing.T) {
	text := "/a//b/c"
	pieces := path.Pieces(text)
	all := []string{"a", "b", "c"}
	for stop := range all {
		var got []string
		for piece := range pieces {
			got = append(got, piece)
			if len(got) == stop+1 {
				break
			}
		}
		if !slices.Equal(got, all[:stop+1]) {
			t.Errorf("left behind %d pieces: %q", stop+1, got)
		}
		wantPieces(t, text, pieces, all)
	}
}

func TestPiecesInsideOfThemselves(t *testing.T) {
	pieces := path.Pieces("a/b")
	var got []string
	for outer := range pieces {
		for inner := range pieces {
			got = append(got, outer+inner)
		}
	}
	if want := []string{"aa", "ab", "ba", "bb"}; !slices.Equal(got, want) {
		t.Errorf("%q, want %q", got, want)
	}
}

// P1.9

func wantSplitWhole(t *testing.T, p string) {
	t.Helper()
	prefix, name, err := path.Split(p)
	wantError(t, "Split", p, err, api.OK)
	if len(name) < 1 || len(name) > 100 || len(prefix) > 155 || path.Join(prefix, name) != p {
		t.Errorf("Split of %q = %q, %q", p, prefix, name)
	}
}

func TestWhatFollowsOfAPath(t *testing.T) {
	tried := 0
	for _, p := range append(edgePaths(), textsOf("./aw", 6)...) {
		if path.Check(p) != nil {
			continue
		}
		tried++
		wantSplitWhole(t, p)
		wantSplitWhole(t, whiteout(p))
		parent, last := path.Parent(p), path.Last(p)
		if path.Join(parent, last) != p || path.Name(last) != nil {
			t.Errorf("%q comes apart as %q and %q", p, parent, last)
		}
		if parent != "" && path.Check(parent) != nil {
			t.Errorf("the parent of %q is no path", p)
		}
		if path.Clean(p) != p {
			t.Errorf("Clean of %q = %q", p, path.Clean(p))
		}
	}
	if tried < 1000 {
		t.Errorf("only %d paths were tried", tried)
	}
}

// P1.10

func TestWhatFollowsOfClean(t *testing.T) {
	for _, s := range textsOf("./ab", 7) {
		clean := path.Clean(s)
		if again := path.Clean(clean); again != clean {
			t.Fatalf("Clean of %q = %q, of that %q", s, clean, again)
		}
		if clean == "" {
			continue
		}
		for _, piece := range strings.Split(clean, "/") {
			if piece == "" || piece == "." || piece == ".." {
				t.Fatalf("Clean of %q = %q", s, clean)
			}
		}
	}
}

func TestCleanOfTwoTexts(t *testing.T) {
	texts := textsOf("./a", 6)
	for _, first := range texts {
		for _, second := range texts {
			whole := path.Clean(first + "/" + second)
			if bit := path.Clean(path.Clean(first) + "/" + second); bit != whole {
				t.Fatalf("%q and %q: %q, bit by bit %q", first, second, whole, bit)
			}
		}
	}
}

// P1.11

func TestCompareIsAnOrder(t *testing.T) {
	texts := textsOf("./a\xff", 4)
	order := make([][]int, len(texts))
	for i, a := range texts {
		order[i] = make([]int, len(texts))
		for j, b := range texts {
			order[i][j] = path.Compare(a, b)
			if order[i][j] != -path.Compare(b, a) || (order[i][j] == 0) != (a == b) {
				t.Fatalf("Compare(%q, %q) = %d, the other way %d", a, b, order[i][j], path.Compare(b, a))
			}
		}
	}
	for i := range texts {
		for j := range texts {
			if order[i][j] >= 0 {
				continue
			}
			for k := range texts {
				if order[j][k] < 0 && order[i][k] >= 0 {
					t.Fatalf("%q, %q, %q are in no order", texts[i], texts[j], texts[k])
				}
			}
		}
	}
}

func TestWhatLiesBelowStandsTogether(t *testing.T) {
	texts := textsOf("./a\xff", 4)
	slices.SortFunc(texts, path.Compare)
	for i, dir := range texts {
		if dir == "" {
			continue
		}
		last := i
		for j, p := range texts {
			if path.Below(dir, p) {
				last = max(last, j)
				if j <= i {
					t.Fatalf("%q stands ahead of %q", p, dir)
				}
			}
		}
		for _, p := range texts[i+1 : last+1] {
			if !path.Below(dir, p) {
				t.Fatalf("%q stands among those below %q", p, dir)
			}
		}
	}
}
