package digest_test

import (
	"crypto/sha256"
	"encoding/hex"
	"errors"
	"fmt"
	"slices"
	"strings"
	"testing"

	"strata/api"
	"strata/digest"
)

const (
	textOfNone = "sha256:e3b0c44298fc1c149afbf4c8996fb92427ae41e4649b934ca495991b7852b855"
	textOfAbc  = "sha256:ba7816bf8f01cfea414140de5dae2223b00361a396177a9cb410ff61f20015ad"
)

// allWidths are the widths that there are, and some that count as the nearest of them.
var allWidths = []int{-1 << 63, -5, -1, 0, 1, 2, 3, 4, 5, 7, 8, 9, 15, 16, 17, 20, 27, 28, 29, 30, 31, 32, 33, 64, 1<<63 - 1}

// run is a text of n bytes b.
func run(b string, n int) string { return strings.Repeat(b, n) }

// mixed is a text of n bytes of all kinds.
func mixed(n int) string {
	text := make([]byte, n)
	for i := range text {
		text[i] = byte(i*i*7 + i/256*31 + n)
	}
	return string(text)
}

// onlyError fails unless err is or wraps just the number no.
func onlyError(t *testing.T, call string, err error, no api.Errno) {
	t.Helper()
	for other := api.ErrArg; other <= api.ErrEmpty; other++ {
		if errors.Is(err, other) != (other == no) {
			t.Errorf("%s: the error is %v, not %v", call, err, no)
			return
		}
	}
}

// digestOf is the chapter's word for a digest, by the library's SHA-256.
func digestOf(width int, s string) api.Digest { return cutTo(width, sha256.Sum256([]byte(s))) }

func cutTo(width int, sum [32]byte) api.Digest {
	for i := range sum {
		if i >= 1 && i >= width {
			sum[i] = 0
		}
	}
	return sum
}

// P3.1

func TestSumSamples(t *testing.T) {
	for _, x := range []struct {
		width int
		text  string
		want  string
	}{
		{32, "", textOfNone},
		{32, "abc", textOfAbc},
		{33, "abc", textOfAbc},
		{31, "abc", textOfAbc[:len(textOfAbc)-2] + "00"},
		{2, "abc", "sha256:ba78" + run("0", 60)},
		{1, "abc", "sha256:ba" + run("0", 62)},
		{0, "abc", "sha256:ba" + run("0", 62)},
		{-5, "abc", "sha256:ba" + run("0", 62)},
		{32, "abcdbcdecdefdefgefghfghighijhijkijkljklmklmnlmnomnopnopq", "sha256:248d6a61d20638b8e5c026930c3e6039a33ce45964ff2167f6ecedd419db06c1"},
		{32, run("a", 1000000), "sha256:cdc76e5c9914fb9281a1c7e284d73e67f1809a48a497200e046d39ccc7112cd0"},
	} {
		if got := digest.Text(digest.Sum(x.width, x.text)); got != x.want {
			t.Errorf("Sum(%d, %.20q) is %s, not %s", x.width, x.text, got, x.want)
		}
	}
}

func TestSumOfEveryLength(t *testing.T) {
	lengths := []int{1<<16 - 1, 1 << 16, 1<<20 + 55, 1<<20 + 56}
	for n := range 300 {
		lengths = append(lengths, n)
	}
	for _, n := range lengths {
		for _, text := range []string{mixed(n), run("\x00", n), run("\xff", n), run("\x80", n)} {
			if got, want := digest.Sum(32, text), digestOf(32, text); got != want {
				t.Errorf("Sum(32, of %d bytes) is %x, not %x", n, got, want)
			}
		}
	}
}

func TestSumOfEveryWidth(t *testing.T) {
	for _, width := range allWidths {
		for _, n := range []int{0, 1, 55, 56, 64, 200} {
			text := mixed(n)
			if got, want := digest.Sum(width, text), digestOf(width, text); got != want {
				t.Errorf("Sum(%d, of %d bytes) is %x, not %x", width, n, got, want)
			}
		}
	}
}

// P3.2

func TestHashSamples(t *testing.T) {
	h := digest.New(32)
	if got := digest.Text(h.Sum()); got != textOfNone {
		t.Errorf("Sum of a new hash is %s", got)
	}
	h.Write("a")
	h.Write("")
	h.Write("bc")
	for range 2 {
		if got := digest.Text(h.Sum()); got != textOfAbc {
			t.Errorf("Sum of a, nothing and bc is %s", got)
		}
	}
}

func TestHashGoesOnBehindASum(t *testing.T) {
	for _, width := range allWidths {
		h := digest.New(width)
		text := ""
		for n := range 150 {
			if got, again, want := h.Sum(), h.Sum(), digestOf(width, text); got != want || again != want {
				t.Fatalf("Sum of width %d of %d bytes is %x, then %x, not %x", width, len(text), got, again, want)
			}
			part := mixed(n % 67)
			h.Write(part)
			text += part
		}
	}
}

func TestHashesShareNothing(t *testing.T) {
	one, two, three := digest.New(32), digest.New(32), digest.New(4)
	for i := range 100 {
		one.Write(mixed(i))
		two.Write("a")
		one.Sum()
		three.Write("bc")
	}
	if got := two.Sum(); got != digestOf(32, run("a", 100)) {
		t.Errorf("Sum of the second is %x", got)
	}
	if got := three.Sum(); got != digestOf(4, run("bc", 100)) {
		t.Errorf("Sum of the third is %x", got)
	}
}

func TestHashOfMoreBitsThan32BitsCount(t *testing.T) {
	part := mixed(1 << 20)
	h, want := digest.New(32), sha256.New()
	for range 1<<9 + 1 {
		h.Write(part)
		want.Write([]byte(part))
	}
	if got := h.Sum(); !slices.Equal(got[:], want.Sum(nil)) {
		t.Errorf("Sum of 513 MiB is %x", got)
	}
}

// P3.3

func TestTextOfEveryByte(t *testing.T) {
	for first := 0; first < 256; first += 32 {
		var d api.Digest
		for i := range d {
			d[i] = byte(first + i)
		}
		text := digest.Text(d)
		if want := "sha256:" + hex.EncodeToString(d[:]); text != want {
			t.Errorf("Text(%x) is %q", d, text)
		}
		wantParse(t, text, d)
	}
	wantParse(t, "sha256:"+run("0", 64), api.Digest{})
}

func wantParse(t *testing.T, text string, want api.Digest) {
	t.Helper()
	if got, err := digest.Parse(text); err != nil || got != want {
		t.Errorf("Parse(%q) is %x, %v", text, got, err)
	}
}

func wantNoDigest(t *testing.T, text string) {
	t.Helper()
	call := fmt.Sprintf("Parse(%.300q)", text)
	got, err := digest.Parse(text)
	onlyError(t, call, err, api.ErrForm)
	var fault api.Fault
	if got != (api.Digest{}) || errors.As(err, &fault) {
		t.Errorf("%s is %x, or its error tells a place", call, got)
	}
}

func TestParseRefuses(t *testing.T) {
	noughts := "sha256:" + run("0", 64)
	for _, text := range []string{
		"", "s", "sha256", "sha256:", ":", run("0", 64), run("0", 71), "sha256:" + run("0", 63), "sha256:" + run("0", 65), "sha256:" + run("0", 62), "sha256:" + run("0", 66),
		"sha255:" + run("0", 64), "SHA256:" + run("0", 64), "Sha256:" + run("0", 64), "sha256-" + run("0", 64), "sha512:" + run("0", 64), "sha256:" + noughts, "sha256::" + run("0", 63),
		noughts + " ", " " + noughts, " " + noughts[:70], noughts[:70] + " ", noughts + "\n", noughts[:70] + "\n", noughts[:70] + "A", noughts[:7] + "F" + noughts[8:], noughts[:7] + "0x" + noughts[9:],
		noughts[:7] + "+1" + noughts[9:], noughts[:7] + "-1" + noughts[9:], noughts[:7] + "\u0661" + noughts[9:], run("a", 100000), strings.ToUpper(textOfAbc), textOfAbc[1:],
	} {
		wantNoDigest(t, text)
	}
}

func TestParseTakesJustTheDigitsAtEachPlace(t *testing.T) {
	for at := len("sha256:"); at < len(textOfAbc); at++ {
		for b := range 256 {
			text := textOfAbc[:at] + string([]byte{byte(b)}) + textOfAbc[at+1:]
			if !strings.ContainsRune("0123456789abcdef", rune(b)) {
				wantNoDigest(t, text)
				continue
			}
			got, err := digest.Parse(text)
			if err != nil || digest.Text(got) != text {
				t.Errorf("Parse(%q) is %x, %v", text, got, err)
			}
		}
	}
	for at := range len("sha256:") {
		for b := range 256 {
			if byte(b) != textOfAbc[at] {
				wantNoDigest(t, textOfAbc[:at]+string([]byte{byte(b)})+textOfAbc[at+1:])
			}
		}
	}
}

// P3.6

func wantClash(t *testing.T, width int, l []string, i, j int, found bool) {
	t.Helper()
	before := slices.Clone(l)
	gotI, gotJ, got := digest.Clash(width, l)
	if gotI != i || gotJ != j || got != found {
		t.Errorf("Clash(%d, %.300q) is %d, %d, %v, not %d, %d, %v", width, l, gotI, gotJ, got, i, j, found)
	}
	if !slices.Equal(l, before) {
		t.Error("Clash changed its list")
	}
}

// alike are n unlike texts with one digest of width 1, which begins with that byte.
func alike(first byte, n int) []string {
	var texts []string
	for i := 0; len(texts) < n; i++ {
		text := fmt.Sprint(i)
		if digestOf(1, text)[0] == first {
			texts = append(texts, text)
		}
	}
	return texts
}

func TestClashSamples(t *testing.T) {
	a, b := alike(0xba, 3), alike(0x00, 3)
	for _, x := range []struct {
		l     []string
		i, j  int
		found bool
	}{
		{nil, 0, 0, false},
		{[]string{}, 0, 0, false},
		{[]string{""}, 0, 0, false},
		{[]string{"", "", ""}, 0, 0, false},
		{[]string{a[0], b[0]}, 0, 0, false},
		{[]string{a[0], b[0], a[0], b[0]}, 0, 0, false},
		{[]string{a[0], a[1]}, 0, 1, true},
		{[]string{a[0], a[0], a[1], a[1]}, 0, 2, true},
		{[]string{b[0], a[0], a[0], a[1], b[1]}, 1, 3, true},
		{[]string{b[0], a[0], b[1], a[1]}, 0, 2, true},
		{[]string{b[0], a[0], a[1], b[1]}, 1, 2, true},
		{[]string{b[0], b[0], a[0], a[1], a[2]}, 2, 3, true},
	} {
		wantClash(t, 1, x.l, x.i, x.j, x.found)
		wantClash(t, -7, x.l, x.i, x.j, x.found)
		wantClash(t, 32, x.l, 0, 0, false)
	}
	wantClash(t, 32, []string{"a", "b", "a"}, 0, 0, false)
}

// clashByTheWords goes through all pairs of places, as the chapter's words do.
func clashByTheWords(width int, l []string) (int, int, bool) {
	for j := range l {
		for i := range j {
			if l[i] != l[j] && digestOf(width, l[i]) == digestOf(width, l[j]) {
				return i, j, true
			}
		}
	}
	return 0, 0, false
}

func TestClashIsTheDocumentsWord(t *testing.T) {
	few := append(alike(0x17, 3), alike(0xff, 2)...)
	for code := range 5 * 5 * 5 * 5 * 5 {
		var l []string
		for rest := code; rest > 0; rest /= 5 {
			l = append(l, few[rest%5])
		}
		i, j, found := clashByTheWords(1, l)
		wantClash(t, 1, l, i, j, found)
	}
	for seed := range 20 {
		var l []string
		for k := range 300 {
			l = append(l, fmt.Sprint(k%200, seed))
		}
		for _, width := range []int{0, 1, 2} {
			i, j, found := clashByTheWords(width, l)
			wantClash(t, width, l, i, j, found)
		}
	}
}

func TestClashOfManyTexts(t *testing.T) {
	var l []string
	for i := range 100000 {
		l = append(l, fmt.Sprint(i/2))
	}
	wantClash(t, 32, l, 0, 0, false)
	i, j, found := digest.Clash(3, l)
	if !found || i >= j || l[i] == l[j] || digestOf(3, l[i]) != digestOf(3, l[j]) {
		t.Errorf("Clash of width 3 of 100000 texts is %d, %d, %v", i, j, found)
	}
}

// P3.7

func TestNarrowDigestsBeginTheWiderOnes(t *testing.T) {
	for _, text := range []string{"", "abc", mixed(64), mixed(1000)} {
		wide := digest.Sum(32, text)
		for width := 1; width <= 32; width++ {
			if got := digest.Sum(width, text); got != cutTo(width, wide) {
				t.Errorf("Sum(%d, of %d bytes) is %x", width, len(text), got)
			}
		}
	}
}

func TestHowATextIsPartedIsNotSeen(t *testing.T) {
	text := mixed(260)
	want := digest.Sum(32, text)
	for size := 1; size <= len(text); size++ {
		h := digest.New(32)
		for from := 0; from < len(text); from += size {
			h.Write(text[from:min(from+size, len(text))])
		}
		if h.Sum() != want {
			t.Errorf("in parts of %d bytes it has another Sum", size)
		}
	}
	for i := range len(text) {
		for j := i; j <= len(text); j += 7 {
			h := digest.New(32)
			h.Write(text[:i])
			h.Write(text[i:j])
			h.Write(text[j:])
			if h.Sum() != want {
				t.Errorf("parted at %d and %d it has another Sum", i, j)
			}
		}
	}
}
