package ustar_test

import (
	"archive/tar"
	"bytes"
	"errors"
	"fmt"
	"io"
	"math"
	"math/rand"
	"strings"
	"testing"
	"time"

	"strata/api"
	"strata/path"
	"strata/ustar"
)

// Where the fields stand, and how many bytes they have.
type place struct {
	name       string
	from, size int
}

var (
	nameAt    = place{"name", 0, 100}
	modeAt    = place{"mode", 100, 8}
	uidAt     = place{"uid", 108, 8}
	gidAt     = place{"gid", 116, 8}
	sizeAt    = place{"size", 124, 12}
	timeAt    = place{"mtime", 136, 12}
	sumAt     = place{"chksum", 148, 8}
	typeAt    = place{"typeflag", 156, 1}
	linkAt    = place{"linkname", 157, 100}
	magicAt   = place{"magic", 257, 6}
	versionAt = place{"version", 263, 2}
	userAt    = place{"uname", 265, 32}
	groupAt   = place{"gname", 297, 32}
	majorAt   = place{"devmajor", 329, 8}
	minorAt   = place{"devminor", 337, 8}
	prefixAt  = place{"prefix", 345, 155}
	restAt    = place{"the last bytes", 500, 12}
)

// of is what stands in the field.
func (p place) of(s string) string { return s[p.from : p.from+p.size] }

// with is the header with other bytes in the field, from its first one on; its sum is as it was.
func (p place) with(s, text string) string {
	b := []byte(s)
	copy(b[p.from:p.from+p.size], text)
	return string(b)
}

// numbered is a number of a header, with its field and its greatest value.
type numbered struct {
	place place
	of    func(h *api.Header) *int64
	most  int64
}

func numbers() []numbered {
	return []numbered{
		{modeAt, func(h *api.Header) *int64 { return &h.Mode }, 2097151},
		{uidAt, func(h *api.Header) *int64 { return &h.Uid }, 2097151},
		{gidAt, func(h *api.Header) *int64 { return &h.Gid }, 2097151},
		{sizeAt, func(h *api.Header) *int64 { return &h.Size }, 8589934591},
		{timeAt, func(h *api.Header) *int64 { return &h.Time }, 8589934591},
		{majorAt, func(h *api.Header) *int64 { return &h.Major }, 2097151},
		{minorAt, func(h *api.Header) *int64 { return &h.Minor }, 2097151},
	}
}

// texted is a text of a header, with its field; the path's is the name.
type texted struct {
	place place
	of    func(h *api.Header) *string
	most  int
}

func texts() []texted {
	return []texted{
		{nameAt, func(h *api.Header) *string { return &h.Path }, 100},
		{linkAt, func(h *api.Header) *string { return &h.Link }, 100},
		{userAt, func(h *api.Header) *string { return &h.User }, 31},
		{groupAt, func(h *api.Header) *string { return &h.Group }, 31},
	}
}

// run is a text of n pieces.
func run(piece string, n int) string { return strings.Repeat(piece, n) }

// padded is a text with bytes 0 behind it.
func padded(s string, n int) string { return s + run("\x00", n-len(s)) }

// sumOf is the sum of a header.
func sumOf(s string) int {
	sum := 8 * int(' ')
	for i := range len(s) {
		if i < 148 || i >= 156 {
			sum += int(s[i])
		}
	}
	return sum
}

// summed is the header with its sum put right.
func summed(s string) string {
	return sumAt.with(s, fmt.Sprintf("%06o\x00 ", sumOf(s)))
}

// onlyError fails unless err is or wraps just the number no, and tells no place.
func onlyError(t *testing.T, call string, err error, no api.Errno) {
	t.Helper()
	for other := api.ErrArg; other <= api.ErrEmpty; other++ {
		if errors.Is(err, other) != (other == no) {
			t.Fatalf("%s: the error is %v, not %v", call, err, no)
		}
	}
	var fault api.Fault
	if errors.As(err, &fault) {
		t.Fatalf("%s: the error tells a place", call)
	}
}

// encoded is the header as Encode writes it.
func encoded(t *testing.T, h api.Header) string {
	t.Helper()
	s, err := ustar.Encode(h)
	if err != nil || len(s) != 512 {
		t.Fatalf("Encode(%.300q) is %q, %v", fmt.Sprint(h), s, err)
	}
	return s
}

func wantNoBytes(t *testing.T, h api.Header, no api.Errno) {
	t.Helper()
	call := fmt.Sprintf("Encode(%.300q)", fmt.Sprintf("%+v", h))
	s, err := ustar.Encode(h)
	onlyError(t, call, err, no)
	if s != "" {
		t.Fatalf("%s: beside the error stands %q", call, s)
	}
}

func wantHeader(t *testing.T, s string, want api.Header) {
	t.Helper()
	got, err := ustar.Decode(s)
	if err != nil || got != want {
		t.Fatalf("Decode(%q) is %+v, %v, not %+v", s, got, err, want)
	}
}

func wantNoHeader(t *testing.T, s string, no api.Errno) {
	t.Helper()
	call := fmt.Sprintf("Decode(%.600q)", s)
	got, err := ustar.Decode(s)
	onlyError(t, call, err, no)
	if got != (api.Header{}) {
		t.Fatalf("%s: beside the error stands %+v", call, got)
	}
}

// full is a header in which no field is zero.
func full() api.Header {
	return api.Header{
		Path: "d/e/f", Mode: 0o7654321, Uid: 0o1234567, Gid: 0o7000001,
		Size: 0o12345670123, Time: 0o76543210765, Type: '3',
		Link: "to/there", User: "root", Group: "wheel", Major: 0o0070707, Minor: 0o0101010,
	}
}

// samples are headers of all sorts, at the edges too.
func samples() []api.Header {
	all := []api.Header{
		{}, full(), {Path: "a", Mode: 420, Type: '0'}, {Path: "/"}, {Path: "//a/"}, {Path: "\xff\xfe"}, {Type: 0xff},
		{Path: run("p", 155) + "/" + run("n", 100), Mode: 2097151, Uid: 2097151, Gid: 2097151, Size: 8589934591, Time: 8589934591, Type: 255,
			Link: run("l", 100), User: run("u", 31), Group: run("g", 31), Major: 2097151, Minor: 2097151},
		{Path: run("\xff", 155) + "/" + run("\xff", 100), Link: run("\xff", 100), User: run("\xff", 31), Group: run("\xff", 31), Type: 0xff},
		{Path: run("p", 100)}, {Path: run("p", 60) + "/" + run("q", 60)}, {Path: run("p", 99) + "/" + run("q", 100)}, {Path: run("a/", 70) + "b"},
		{Path: run("a/", 51)}, {Path: "a/" + run("b", 98)}, {Path: "a/" + run("b", 99)}, {Path: "a//" + run("b", 99)},
	}
	for _, n := range numbers() {
		for _, value := range []int64{1, 7, 8, n.most / 8, n.most/8 + 1, n.most} {
			h := api.Header{Path: "n"}
			*n.of(&h) = value
			all = append(all, h)
		}
	}
	for _, x := range texts() {
		for _, size := range []int{1, 2, x.most - 1, x.most} {
			h := api.Header{Type: '0'}
			*x.of(&h) = run("t", size)
			all = append(all, h)
		}
	}
	return all
}

// anyText is a text of at most n bytes, none of them 0, few of them slashes.
func anyText(random *rand.Rand, n int) string {
	b := make([]byte, random.Intn(n+1))
	for i := range b {
		b[i] = byte(1 + random.Intn(255))
		if random.Intn(12) == 0 {
			b[i] = '/'
		}
	}
	return string(b)
}

// anyHeader is a header that Encode takes.
func anyHeader(random *rand.Rand) api.Header {
	h := api.Header{Type: byte(random.Intn(256)), Link: anyText(random, 100), User: anyText(random, 31), Group: anyText(random, 31)}
	for h.Path = anyText(random, 256); ; h.Path = anyText(random, 256) {
		if _, _, err := path.Split(h.Path); err == nil {
			break
		}
	}
	for _, n := range numbers() {
		*n.of(&h) = random.Int63n(n.most+1) >> random.Intn(34)
	}
	return h
}

// P5.1

func TestEncodeZero(t *testing.T) {
	small, great := "0000000\x00", "00000000000\x00"
	want := run("\x00", 100) + run(small, 3) + run(great, 2) + "007077\x00 " + "\x00" + run("\x00", 100) +
		"ustar\x00" + "00" + run("\x00", 64) + run(small, 2) + run("\x00", 167)
	if got := encoded(t, api.Header{}); got != want {
		t.Errorf("the zero header is written as %q", got)
	}
}

func TestEncodeFields(t *testing.T) {
	h := full()
	h.Path = run("d", 90) + "/" + run("e", 20)
	s := encoded(t, h)
	for _, x := range []struct {
		place place
		want  string
	}{
		{nameAt, padded(run("e", 20), 100)},
		{modeAt, "7654321\x00"},
		{uidAt, "1234567\x00"},
		{gidAt, "7000001\x00"},
		{sizeAt, "12345670123\x00"},
		{timeAt, "76543210765\x00"},
		{typeAt, "3"},
		{linkAt, padded("to/there", 100)},
		{magicAt, "ustar\x00"},
		{versionAt, "00"},
		{userAt, padded("root", 32)},
		{groupAt, padded("wheel", 32)},
		{majorAt, "0070707\x00"},
		{minorAt, "0101010\x00"},
		{prefixAt, padded(run("d", 90), 155)},
		{restAt, run("\x00", 12)},
		{sumAt, fmt.Sprintf("%06o\x00 ", sumOf(s))},
	} {
		if got := x.place.of(s); got != x.want {
			t.Errorf("%s is %q, not %q", x.place.name, got, x.want)
		}
	}
}

func TestEncodeExample(t *testing.T) {
	s := encoded(t, api.Header{Path: "a", Mode: 420, Type: '0'})
	if modeAt.of(s) != "0000644\x00" || sumAt.of(s) != "007336\x00 " || nameAt.of(s) != padded("a", 100) || typeAt.of(s) != "0" {
		t.Errorf("it is %q", s)
	}
}

func TestEncodePaths(t *testing.T) {
	for _, x := range []struct{ text, prefix, name string }{
		{"", "", ""},
		{"/", "", "/"},
		{"a/b", "", "a/b"},
		{"../a", "", "../a"},
		{".wh.a", "", ".wh.a"},
		{run("a", 100), "", run("a", 100)},
		{run("a", 49) + "/" + run("b", 50), "", run("a", 49) + "/" + run("b", 50)},
		{"a/" + run("b", 99), "a", run("b", 99)},
		{run("a", 99) + "/" + run("b", 100), run("a", 99), run("b", 100)},
		{run("a", 155) + "/" + run("b", 100), run("a", 155), run("b", 100)},
		{run("a", 155) + "/b", run("a", 155), "b"},
		{run("a", 60) + "/" + run("b", 60) + "/" + run("c", 60), run("a", 60) + "/" + run("b", 60), run("c", 60)},
		{run("a", 20) + "/" + run("b", 60) + "/" + run("c", 38), run("a", 20), run("b", 60) + "/" + run("c", 38)},
	} {
		s := encoded(t, api.Header{Path: x.text})
		if nameAt.of(s) != padded(x.name, 100) || prefixAt.of(s) != padded(x.prefix, 155) {
			t.Errorf("of %q the prefix is %q, the name %q", x.text, prefixAt.of(s), nameAt.of(s))
		}
	}
	for _, text := range []string{
		run("a", 101), run("a", 156) + "/b", run("a", 156) + "/" + run("b", 100), run("a", 99) + "/" + run("b", 101), "/" + run("a", 100), run("a", 100) + "/", run("a", 100000),
	} {
		wantNoBytes(t, api.Header{Path: text}, api.ErrPath)
	}
}

func TestEncodeTexts(t *testing.T) {
	for _, x := range texts() {
		for _, text := range []string{"a\x00", "\x00", "\x00a", "a\x00b"} {
			h := api.Header{Path: "p", Link: "l"}
			*x.of(&h) = text
			wantNoBytes(t, h, api.ErrText)
		}
		h := api.Header{}
		*x.of(&h) = run("t", x.most)
		if got := x.place.of(encoded(t, h)); got != padded(run("t", x.most), x.place.size) {
			t.Errorf("%s is %q", x.place.name, got)
		}
	}
	for _, text := range []string{run("u", 32), run("u", 33), run("\u00e4", 16), run("u", 1000)} {
		wantNoBytes(t, api.Header{User: text}, api.ErrText)
		wantNoBytes(t, api.Header{Group: text}, api.ErrText)
	}
	for _, text := range []string{run("l", 101), run("l/", 51), run("l", 100000)} {
		wantNoBytes(t, api.Header{Link: text}, api.ErrLink)
	}
}

func TestEncodeNumbers(t *testing.T) {
	for _, n := range numbers() {
		for _, value := range []int64{0, 1, 7, 8, 511, n.most - 1, n.most} {
			var h api.Header
			*n.of(&h) = value
			if got, want := n.place.of(encoded(t, h)), fmt.Sprintf("%0*o\x00", n.place.size-1, value); got != want {
				t.Errorf("%s of %d is %q, not %q", n.place.name, value, got, want)
			}
		}
		for _, value := range []int64{-1, -2, math.MinInt64, n.most + 1, n.most*8 + 7, 1 << 36, 1 << 53, math.MaxInt64} {
			var h api.Header
			*n.of(&h) = value
			wantNoBytes(t, h, api.ErrArg)
		}
	}
}

func TestEncodeTypes(t *testing.T) {
	for kind := range 256 {
		s := encoded(t, api.Header{Path: "a", Type: byte(kind)})
		if s[156] != byte(kind) || sumAt.of(s) != fmt.Sprintf("%06o\x00 ", sumOf(s)) {
			t.Errorf("of the type %d it is %q", kind, s)
		}
	}
}

func TestEncodeGreatestSum(t *testing.T) {
	h := api.Header{Path: run("\xff", 155) + "/" + run("\xff", 100), Link: run("\xff", 100), User: run("\xff", 31), Group: run("\xff", 31), Type: 0xff}
	for _, n := range numbers() {
		*n.of(&h) = n.most
	}
	s := encoded(t, h)
	if want := fmt.Sprintf("%06o\x00 ", sumOf(s)); sumAt.of(s) != want {
		t.Errorf("chksum is %q, not %q", sumAt.of(s), want)
	}
}

func TestEncodeOrderOfErrors(t *testing.T) {
	long := run("a", 101)
	all := api.Header{Path: long, Link: long, Group: run("g", 32), Minor: -1}
	wantNoBytes(t, all, api.ErrText)
	all.Group = "\x00"
	wantNoBytes(t, all, api.ErrText)
	all.Group = ""
	wantNoBytes(t, all, api.ErrPath)
	all.Path = "a"
	wantNoBytes(t, all, api.ErrLink)
	all.Link = "a"
	wantNoBytes(t, all, api.ErrArg)
	wantNoBytes(t, api.Header{Link: long + "\x00"}, api.ErrText)
	wantNoBytes(t, api.Header{Path: long + "\x00"}, api.ErrText)
	wantNoBytes(t, api.Header{Path: long, Size: -1}, api.ErrPath)
	wantNoBytes(t, api.Header{Link: long, Mode: -1}, api.ErrLink)
	wantNoBytes(t, api.Header{User: run("u", 32), Time: -1}, api.ErrText)
}

// P5.2

func TestDecodeSize(t *testing.T) {
	s := encoded(t, full())
	for n := range 512 {
		wantNoHeader(t, s[:n], api.ErrShort)
	}
	wantHeader(t, s, full())
	wantNoHeader(t, s+"\x00", api.ErrLong)
	wantNoHeader(t, s+s, api.ErrLong)
	wantNoHeader(t, run("\x00", 511), api.ErrShort)
	wantNoHeader(t, run("\x00", 512), api.ErrForm)
	wantNoHeader(t, run("\x00", 513), api.ErrLong)
	wantNoHeader(t, run("\x00", 1<<20), api.ErrLong)
}

func TestDecodeMagic(t *testing.T) {
	s := encoded(t, full())
	for at := 257; at < 265; at++ {
		for c := range 256 {
			if b := []byte(s); b[at] != byte(c) {
				b[at] = byte(c)
				wantNoHeader(t, summed(string(b)), api.ErrForm)
			}
		}
	}
	// As older writers had it.
	wantNoHeader(t, summed(versionAt.with(magicAt.with(s, "ustar "), " \x00")), api.ErrForm)
	wantNoHeader(t, summed(magicAt.with(s, "USTAR\x00")), api.ErrForm)
}

// read is what the form of a number's field says, byte by byte.
func read(text string) (int64, bool) {
	i := 0
	for i < len(text) && text[i] == ' ' {
		i++
	}
	n, digits := int64(0), 0
	for i < len(text) && text[i] >= '0' && text[i] <= '7' {
		n = n*8 + int64(text[i]-'0')
		i, digits = i+1, digits+1
	}
	for ; i < len(text); i++ {
		if text[i] != 0 && text[i] != ' ' {
			return 0, false
		}
	}
	return n, digits > 0
}

// forms are texts for a number's field of that size: its edges, and all of a few bytes, at its beginning and its end.
func forms(size int) []string {
	last := size - 1
	all := []string{
		run("0", size), run("7", size), run("7", last) + "\x00", run("7", last) + " ", " " + run("7", last), "1" + run("\x00", last), "1" + run(" ", last),
		run(" ", last) + "1", run(" ", last) + "\x00", run(" ", size), run("\x00", size), "\x00" + run("1", last), run("0", last) + "8", run("0", last-1) + "8\x00",
		padded("12 3", size), padded("12\x003", size), padded(" 1 \x00 \x00", size), padded("-1", size), padded("+1", size), padded("0x1", size), padded("0o1", size),
		padded("1_1", size), padded("\t1", size), padded("1\t", size), padded("1\n", size), padded("\xb1", size), padded("1\xff", size), padded("/", size), padded("9", size), padded("a", size),
	}
	letters := "07 8\x00"
	for i := range len(letters) * len(letters) * len(letters) * len(letters) {
		var four []byte
		for n, k := i, 0; k < 4; k++ {
			four = append(four, letters[n%len(letters)])
			n /= len(letters)
		}
		all = append(all, padded(string(four), size), run(" ", size-4)+string(four), run("1", size-4)+string(four))
	}
	return all
}

func TestDecodeNumbers(t *testing.T) {
	for _, n := range numbers() {
		s := encoded(t, full())
		for _, text := range forms(n.place.size) {
			changed := summed(n.place.with(s, text))
			value, ok := read(text)
			if !ok {
				wantNoHeader(t, changed, api.ErrText)
				continue
			}
			want := full()
			*n.of(&want) = value
			wantHeader(t, changed, want)
		}
	}
}

func TestDecodeSum(t *testing.T) {
	s := encoded(t, full())
	sum := int64(sumOf(s))
	digits := fmt.Sprintf("%o", sum)
	for _, text := range []string{
		padded(digits, 8), fmt.Sprintf("%8s", digits), fmt.Sprintf("%-8s", digits), fmt.Sprintf("%08o", sum), fmt.Sprintf("%07o\x00", sum), fmt.Sprintf("%07o ", sum), padded(" "+digits+" ", 8), fmt.Sprintf("%06o \x00", sum),
	} {
		wantHeader(t, sumAt.with(s, text), full())
	}
	for _, other := range []int64{0, 1, sum - 1, sum + 1, sum - 256, sum + 256, sum * 8, 1<<18 - 1} {
		wantNoHeader(t, sumAt.with(s, fmt.Sprintf("%06o\x00 ", other)[:8]), api.ErrSum)
	}
	for _, text := range forms(8) {
		value, ok := read(text)
		if !ok {
			wantNoHeader(t, sumAt.with(s, text), api.ErrText)
		} else if value != sum {
			wantNoHeader(t, sumAt.with(s, text), api.ErrSum)
		}
	}
}

// Bytes are added up as numbers from 0 to 255; as numbers from -128 on the sum is another.
func TestDecodeSumOfGreatBytes(t *testing.T) {
	h := api.Header{Path: "\x80\x90"}
	s := encoded(t, h)
	wantHeader(t, s, h)
	wantNoHeader(t, sumAt.with(s, fmt.Sprintf("%06o\x00 ", sumOf(s)-512)), api.ErrSum)
}

func TestDecodeTexts(t *testing.T) {
	zero := encoded(t, api.Header{})
	for _, x := range texts() {
		for _, row := range []struct{ field, text string }{
			{"", ""},
			{"abc", "abc"},
			{"abc\x00def", "abc"},
			{"\x00abc", ""},
			{"a b ", "a b "},
			{run("f", x.place.size-1), run("f", x.place.size-1)},
			{run("f", x.place.size), run("f", x.place.size)},
			{run("f", x.place.size-1) + "\x00", run("f", x.place.size-1)},
		} {
			var want api.Header
			*x.of(&want) = row.text
			wantHeader(t, summed(x.place.with(zero, row.field)), want)
		}
	}
}

func TestDecodePaths(t *testing.T) {
	zero := encoded(t, api.Header{})
	for _, x := range []struct{ prefix, name, want string }{
		{"", "", ""},
		{"", "a", "a"},
		{"a", "", "a/"},
		{"a", "b", "a/b"},
		{"a/", "b", "a//b"},
		{"a", "/b", "a//b"},
		{"\x00a", "b", "b"},
		{"a\x00c", "b\x00d", "a/b"},
		{run("p", 155), run("n", 100), run("p", 155) + "/" + run("n", 100)},
		{run("p", 155), "", run("p", 155) + "/"},
		{"", "/", "/"},
		{"/", "", "//"},
	} {
		wantHeader(t, summed(prefixAt.with(nameAt.with(zero, x.name), x.prefix)), api.Header{Path: x.want})
	}
}

func TestDecodeTypes(t *testing.T) {
	zero := encoded(t, api.Header{})
	for kind := range 256 {
		wantHeader(t, summed(typeAt.with(zero, string([]byte{byte(kind)}))), api.Header{Type: byte(kind)})
	}
}

func TestDecodeLastBytes(t *testing.T) {
	s := encoded(t, full())
	wantHeader(t, summed(restAt.with(s, "abcdefghijkl")), full())
	wantHeader(t, summed(restAt.with(s, run("\xff", 12))), full())
	wantNoHeader(t, restAt.with(s, "abcdefghijkl"), api.ErrSum)
}

func TestDecodeExamples(t *testing.T) {
	h := api.Header{Path: "a", Mode: 420, Type: '0'}
	s := encoded(t, h)
	wantHeader(t, summed(modeAt.with(s, "   644  ")), h)
	wantNoHeader(t, summed(modeAt.with(s, run("\x00", 8))), api.ErrText)
	wantNoHeader(t, summed(modeAt.with(s, "0000648\x00")), api.ErrText)
	wantNoHeader(t, typeAt.with(s, "5"), api.ErrSum)
}

func TestDecodeOrderOfErrors(t *testing.T) {
	s := encoded(t, full())
	wrong := magicAt.with(modeAt.with(s, "x"), "x")
	wantNoHeader(t, wrong[:511], api.ErrShort)
	wantNoHeader(t, wrong+"\x00", api.ErrLong)
	wantNoHeader(t, wrong, api.ErrForm)
	wantNoHeader(t, sumAt.with(versionAt.with(s, "01"), "x"), api.ErrForm)
	for _, n := range numbers() {
		wantNoHeader(t, n.place.with(s, "x"), api.ErrText)
	}
	wantNoHeader(t, sumAt.with(typeAt.with(s, "x"), "x"), api.ErrText)
	wantNoHeader(t, minorAt.with(sumAt.with(s, "1"), "x"), api.ErrText)
}

// R1: no bytes make it panic, and what it takes holds together.
func TestDecodeAnyBytes(t *testing.T) {
	random := rand.New(rand.NewSource(1))
	letters := " 01234567\x00\xffa/"
	for range 20000 {
		b := make([]byte, 512)
		for i := range b {
			b[i] = letters[random.Intn(len(letters))]
		}
		s := string(b)
		if random.Intn(4) > 0 {
			s = versionAt.with(magicAt.with(s, "ustar\x00"), "00")
		}
		for _, n := range numbers() {
			if random.Intn(10) > 0 {
				s = n.place.with(s, fmt.Sprintf("%0*o\x00", n.place.size-1, random.Intn(1000)))
			}
		}
		if random.Intn(4) > 0 {
			s = summed(s)
		}
		got, err := ustar.Decode(s)
		if err != nil && got != (api.Header{}) {
			t.Fatalf("Decode(%q) is %+v, %v", s, got, err)
		}
		if err == nil && (got.Type != s[156] || !strings.HasPrefix(s[157:257], got.Link) || !strings.HasPrefix(s[265:297], got.User)) {
			t.Fatalf("Decode(%q) is %+v", s, got)
		}
	}
}

// P5.3

func TestOf(t *testing.T) {
	for _, x := range []struct {
		entry api.Entry
		want  api.Header
	}{
		{api.Entry{Path: "a/b", Kind: api.KFile, Mode: 420, Data: "abc"}, api.Header{Path: "a/b", Mode: 420, Size: 3, Type: '0'}},
		{api.Entry{Path: "l", Kind: api.KLink, Mode: 511, Link: "x"}, api.Header{Path: "l", Mode: 511, Type: '2', Link: "x"}},
		{api.Entry{Path: "d", Kind: api.KDir, Mode: 493}, api.Header{Path: "d", Mode: 493, Type: '5'}},
		{api.Entry{Path: "e", Kind: api.KFile}, api.Header{Path: "e", Type: '0'}},
		{api.Entry{Path: "d", Kind: api.KDir}, api.Header{Path: "d", Type: '5'}},
		{api.Entry{Path: "f", Kind: api.KFile, Mode: 4095, Data: run("\x00", 1<<20)}, api.Header{Path: "f", Mode: 4095, Size: 1 << 20, Type: '0'}},
		{api.Entry{}, api.Header{}},
	} {
		if got := ustar.Of(x.entry); got != x.want {
			t.Errorf("Of(%.200q) is %+v, not %+v", fmt.Sprint(x.entry), got, x.want)
		}
	}
}

// An entry that no tree can have has a header too: fields that its kind has not are not looked at.
func TestOfAnyEntry(t *testing.T) {
	e := api.Entry{Path: "/a\x00", Mode: -7, Data: "12345", Link: run("l", 200)}
	for kind := api.Kind(-3); kind < 9; kind++ {
		e.Kind = kind
		var want api.Header
		switch kind {
		case api.KDir:
			want = api.Header{Path: "/a\x00", Mode: -7, Type: '5'}
		case api.KFile:
			want = api.Header{Path: "/a\x00", Mode: -7, Size: 5, Type: '0'}
		case api.KLink:
			want = api.Header{Path: "/a\x00", Mode: 511, Type: '2', Link: run("l", 200)}
		}
		if got := ustar.Of(e); got != want {
			t.Errorf("of the kind %d it is %+v, not %+v", kind, got, want)
		}
	}
	for _, mode := range []int{math.MinInt, math.MaxInt, 1 << 40} {
		if got := ustar.Of(api.Entry{Kind: api.KDir, Mode: mode}); got.Mode != int64(mode) {
			t.Errorf("the mode %d becomes %d", mode, got.Mode)
		}
	}
}

// P5.4

func wantThereAndBack(t *testing.T, h api.Header) {
	t.Helper()
	s := encoded(t, h)
	got, err := ustar.Decode(s)
	if err != nil || got != h {
		t.Fatalf("%+v is read as %+v, %v", h, got, err)
	}
	if again := encoded(t, got); again != s {
		t.Fatalf("%+v is written again as %q, not %q", h, again, s)
	}
}

func TestThereAndBack(t *testing.T) {
	for _, h := range samples() {
		wantThereAndBack(t, h)
	}
	random := rand.New(rand.NewSource(2))
	for range 5000 {
		wantThereAndBack(t, anyHeader(random))
	}
}

func TestUnlikeHeaders(t *testing.T) {
	written := map[string]api.Header{}
	for _, h := range samples() {
		s := encoded(t, h)
		if other, there := written[s]; there && other != h {
			t.Errorf("%+v and %+v are written alike", h, other)
		}
		written[s] = h
	}
	// Where a path is cut must not be lost.
	for _, pair := range [][2]string{{"a/" + run("b", 99), "a//" + run("b", 98)}, {run("a", 100), run("a", 99)}, {"", "/"}} {
		if encoded(t, api.Header{Path: pair[0]}) == encoded(t, api.Header{Path: pair[1]}) {
			t.Errorf("%q and %q are written alike", pair[0], pair[1])
		}
	}
}

// P5.5

func TestOneOtherByte(t *testing.T) {
	headers := []api.Header{{}, full(), {Path: run("p", 155) + "/" + run("n", 100), Type: '0', Size: 8589934591, Link: run("l", 100)}, {Path: run("\xff", 100), Type: 0xff}}
	for _, h := range headers {
		b := []byte(encoded(t, h))
		for at := range b {
			if at >= 148 && at < 156 {
				continue
			}
			was := b[at]
			for c := range 256 {
				if byte(c) == was {
					continue
				}
				b[at] = byte(c)
				if got, err := ustar.Decode(string(b)); err == nil || got != (api.Header{}) {
					t.Fatalf("with the byte %d as %d, not %d, it is taken as %+v, %v", at, c, was, got, err)
				}
			}
			b[at] = was
		}
	}
}

// P5.6

// longestPaths are paths whose names have lengths at the edges of what a path may be.
func longestPaths() []string {
	lengths := []int{1, 37, 38, 39, 56, 57, 58, 60, 94, 95, 96}
	longest := []string{""}
	all := []string{run("a/", 31) + "a", run("abcdef/", 31) + "a"}
	for depth := range 4 {
		var next []string
		for _, dir := range longest {
			for _, n := range lengths {
				next = append(next, path.Join(dir, run(string("abcd"[depth]), n)))
			}
		}
		all = append(all, next...)
		longest = next
	}
	return all
}

func TestEntriesOfTrees(t *testing.T) {
	count := 0
	for _, p := range longestPaths() {
		if path.Check(p) != nil {
			continue
		}
		count++
		for _, e := range []api.Entry{
			{Path: p, Kind: api.KDir, Mode: api.MaxMode},
			{Path: p, Kind: api.KFile, Mode: api.MaxMode, Data: "data"},
			{Path: p, Kind: api.KFile},
			{Path: p, Kind: api.KLink, Mode: 511, Link: run("l", api.MaxTarget)},
		} {
			wantThereAndBack(t, ustar.Of(e))
		}
		wantThereAndBack(t, api.Header{Path: path.Join(path.Parent(p), ".wh."+path.Last(p)), Type: '0'})
	}
	if count < 300 {
		t.Errorf("%d paths are too few", count)
	}
	wantThereAndBack(t, ustar.Of(api.Entry{Path: "f", Kind: api.KFile, Mode: 420, Data: run("x", api.MaxFile)}))
}

// W5: the headers are those of POSIX.1-1988, so another reader and another writer of them agree.

func TestAnotherReader(t *testing.T) {
	for _, h := range []api.Header{
		{Path: "a/b", Mode: 0o644, Uid: 1000, Gid: 100, Size: 3, Time: 1234567890, Type: '0', User: "me", Group: "us"},
		{Path: run("d", 90) + "/" + run("e", 50), Mode: 0o755, Type: '5'},
		{Path: "l", Mode: 511, Type: '2', Link: run("t", 100)},
		{Path: "dev", Mode: 0o600, Type: '3', Major: 7, Minor: 2097151},
	} {
		archive := encoded(t, h) + padded(run("x", int(h.Size)), 512) + run("\x00", 1024)
		got, err := tar.NewReader(strings.NewReader(archive)).Next()
		if err != nil {
			t.Errorf("%+v: %v", h, err)
			continue
		}
		name := strings.TrimSuffix(got.Name, "/")
		again := api.Header{Path: name, Mode: got.Mode, Uid: int64(got.Uid), Gid: int64(got.Gid), Size: got.Size, Time: got.ModTime.Unix(), Type: got.Typeflag,
			Link: got.Linkname, User: got.Uname, Group: got.Gname, Major: got.Devmajor, Minor: got.Devminor}
		if again != h || got.Format != tar.FormatUSTAR {
			t.Errorf("%+v is read as %+v, %v", h, again, got.Format)
		}
	}
}

func TestAnotherWriter(t *testing.T) {
	for _, h := range []api.Header{
		{Path: "a/b", Mode: 0o644, Uid: 1000, Gid: 100, Time: 1234567890, Type: '0', User: "me", Group: "us"},
		{Path: run("d", 90) + "/" + run("e", 100), Mode: 0o755, Type: '0'},
		{Path: "l", Mode: 511, Type: '2', Link: run("t", 100)},
		{Path: "dev", Mode: 0o600, Type: '3', Major: 7, Minor: 2097151},
	} {
		var out bytes.Buffer
		err := tar.NewWriter(&out).WriteHeader(&tar.Header{Name: h.Path, Mode: h.Mode, Uid: int(h.Uid), Gid: int(h.Gid), Size: h.Size, ModTime: time.Unix(h.Time, 0), Typeflag: h.Type,
			Linkname: h.Link, Uname: h.User, Gname: h.Group, Devmajor: h.Major, Devminor: h.Minor, Format: tar.FormatUSTAR})
		written, _ := io.ReadAll(&out)
		if err != nil || len(written) < 512 {
			t.Errorf("%+v: %v", h, err)
			continue
		}
		wantHeader(t, string(written[:512]), h)
		if got := encoded(t, h); got != string(written[:512]) {
			t.Errorf("%+v is written as %q, not %q", h, got, written[:512])
		}
	}
}
