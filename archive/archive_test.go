package archive_test

import (
	"archive/tar"
	"bytes"
	"compress/gzip"
	"errors"
	"fmt"
	"io"
	"math"
	"math/rand"
	"slices"
	"strings"
	"testing"
	"time"

	"strata/api"
	"strata/archive"
	"strata/flate"
	"strata/tree"
	"strata/ustar"
)

// one is the member that the chapter calls A.
var one = member("a", "xyz")

// member is a file's.
func member(p, data string) api.Member {
	return api.Member{Header: api.Header{Path: p, Mode: 420, Size: int64(len(data)), Type: '0'}, Data: data}
}

// typed is a member of any type.
func typed(kind byte, p, data, link string) api.Member {
	m := member(p, data)
	m.Header.Type, m.Header.Link = kind, link
	return m
}

func list(l ...api.Member) []api.Member { return l }

func run(s string, n int) string { return strings.Repeat(s, n) }

func dir(p string) api.Entry { return api.Entry{Path: p, Kind: api.KDir, Mode: 493} }

func file(p, data string) api.Entry {
	return api.Entry{Path: p, Kind: api.KFile, Mode: 420, Data: data}
}

func link(p, to string) api.Entry {
	return api.Entry{Path: p, Kind: api.KLink, Mode: 511, Link: to}
}

// refused fails unless err is just the number no, and tells just that place.
func refused(t *testing.T, call string, err error, no api.Errno, at int) {
	t.Helper()
	for other := api.ErrArg; other <= api.ErrEmpty; other++ {
		if errors.Is(err, other) != (other == no) {
			t.Fatalf("%s: the error is %v, not %v", call, err, no)
		}
	}
	var fault api.Fault
	if !errors.As(err, &fault) || fault != (api.Fault{No: no, At: at}) {
		t.Fatalf("%s: the error tells %+v, not %v at %d", call, fault, no, at)
	}
}

// told is the beginning of a row of members, without their data.
func told(l []api.Member) string {
	s := fmt.Sprint(len(l), " members:")
	for _, m := range l[:min(len(l), 5)] {
		s += fmt.Sprintf(" %.300q, %d bytes;", fmt.Sprint(m.Header), len(m.Data))
	}
	return s
}

// archiveOf is what Write makes of members that it takes.
func archiveOf(t *testing.T, l ...api.Member) string {
	t.Helper()
	s, err := archive.Write(l)
	if err != nil {
		t.Fatalf("Write of %s is refused: %v", told(l), err)
	}
	return s
}

// stays fails unless Write refuses the members.
func stays(t *testing.T, l []api.Member, no api.Errno, at int) {
	t.Helper()
	s, err := archive.Write(l)
	refused(t, "Write of "+told(l), err, no, at)
	if s != "" {
		t.Fatalf("beside an error: %.100q", s)
	}
}

// reads fails unless Read of s is want.
func reads(t *testing.T, s string, want ...api.Member) {
	t.Helper()
	l, err := archive.Read(s)
	if err != nil || !slices.Equal(l, want) {
		t.Fatalf("Read of %d bytes is %s, %v; not %s", len(s), told(l), err, told(want))
	}
}

// stops fails unless Read refuses s, and Any finds nothing in it.
func stops(t *testing.T, s string, no api.Errno, at int) {
	t.Helper()
	l, err := archive.Read(s)
	refused(t, fmt.Sprintf("Read of %d bytes", len(s)), err, no, at)
	if len(l) != 0 {
		t.Fatalf("beside an error: %s", told(l))
	}
	nothing(t, s)
}

// finds fails unless Any of s is want.
func finds(t *testing.T, s string, want ...api.Entry) {
	t.Helper()
	l, ok := archive.Any(s)
	if !ok || !slices.Equal(l, want) {
		t.Fatalf("Any of %.20q, %d bytes, is %.300q, %v; not %.300q", s, len(s), fmt.Sprint(l), ok, fmt.Sprint(want))
	}
}

func nothing(t *testing.T, s string) {
	t.Helper()
	if l, ok := archive.Any(s); ok || len(l) != 0 {
		t.Fatalf("Any of %.20q, %d bytes, is %.300q, %v", s, len(s), fmt.Sprint(l), ok)
	}
}

// agree fails unless Read and Any answer as the second telling does, of s and of its gzip.
func agree(t *testing.T, s string) {
	t.Helper()
	if want, no, at := plainRead(s); no == api.OK {
		reads(t, s, want...)
	} else {
		_, err := archive.Read(s)
		refused(t, fmt.Sprintf("Read of %d bytes", len(s)), err, no, at)
	}
	for _, x := range []string{s, flate.Gzip(s)} {
		l, ok := archive.Any(x)
		if want, there := plainAny(x); ok != there || !slices.Equal(l, want) {
			t.Fatalf("Any of %.20q, %d bytes, is %.300q, %v; not %.300q, %v", x, len(x), fmt.Sprint(l), ok, fmt.Sprint(want), there)
		}
	}
}

// with is s with another text from a byte on.
func with(s string, at int, text string) string { return s[:at] + text + s[at+len(text):] }

// summed is an archive whose first header's sum is put right.
func summed(s string) string {
	s = with(s, 148, "        ")
	sum := 0
	for i := range 512 {
		sum += int(s[i])
	}
	return with(s, 148, fmt.Sprintf("%06o\x00 ", sum))
}

// The chapter's table of examples.
func TestExamples(t *testing.T) {
	head, err := ustar.Encode(one.Header)
	if err != nil {
		t.Fatal(err)
	}
	s := archiveOf(t, one)
	if none := archiveOf(t); none != zeros(1024) || s != head+"xyz"+zeros(509)+zeros(1024) || len(s) != 2048 {
		t.Errorf("%q, %q", none, s)
	}
	four, less := one, one
	four.Header.Size, less.Header.Mode = 4, -1
	stays(t, list(one, four), api.ErrArg, 1)
	stays(t, list(less), api.ErrArg, 0)

	stops(t, "", api.ErrShort, 0)
	reads(t, zeros(1024))
	stops(t, zeros(512), api.ErrShort, 512)
	reads(t, zeros(1536))
	stops(t, zeros(1025), api.ErrShort, 1024)
	stops(t, s[:2047], api.ErrShort, 1536)
	stops(t, s[:1024], api.ErrShort, 1024)
	stops(t, s[:1023], api.ErrShort, 512)
	stops(t, with(s, 1536, "b"), api.ErrLong, 1536)
	stops(t, with(s, 0, "b"), api.ErrSum, 0)

	finds(t, s, file("a", "xyz"))
	nothing(t, zeros(1024))
	nothing(t, "hello")
	d := typed('5', "./d/", "", "")
	d.Header.Mode = 1<<20 - 1
	finds(t, archiveOf(t, d), api.Entry{Path: "./d/", Kind: api.KDir, Mode: 4095})
	d.Header.Type = '1'
	nothing(t, archiveOf(t, d))
}

// P11.1, P11.7

func TestWriteOfAllSizes(t *testing.T) {
	for _, n := range []int{0, 1, 2, 510, 511, 512, 513, 1023, 1024, 1025, 4096, 5000, 100000} {
		for _, kind := range []byte{'0', 0, '1', '2', '5', 'x', 0xff} {
			m := typed(kind, "p", run("d", n), "")
			l := list(one, m, one, m)
			want, no, _ := plainWrite(l)
			if s := archiveOf(t, l...); no != api.OK || s != want || len(s) != 512*(2+2*2+2*(1+(n+511)/512)) {
				t.Fatalf("%d bytes of the type %d: %d bytes, not %d", n, kind, len(s), len(want))
			}
		}
	}
}

// wrongHeaders have each an error of ustar.Encode; Size is 0, so that with data ErrArg is told too, but later.
func wrongHeaders() map[api.Errno][]api.Header {
	return map[api.Errno][]api.Header{
		api.ErrText: {{Path: "a\x00"}, {Link: "\x00"}, {User: run("u", 32)}, {Group: "g\x00", Mode: -1}},
		api.ErrPath: {{Path: run("a", 101)}, {Path: run("a", 156) + "/b", Link: run("l", 101)}},
		api.ErrLink: {{Link: run("l", 101)}, {Path: "a", Link: run("l", 200), Mode: -1}},
		api.ErrArg:  {{Mode: -1}, {Mode: 2097152}, {Uid: -1}, {Time: 8589934592}, {Minor: math.MinInt64}, {Major: math.MaxInt64}},
	}
}

func TestWriteOfWrongHeaders(t *testing.T) {
	much := run("x", api.MaxArchive)
	for no, headers := range wrongHeaders() {
		for _, h := range headers {
			for _, data := range []string{"", "x", much} {
				wrong := api.Member{Header: h, Data: data}
				stays(t, list(wrong), no, 0)
				stays(t, list(one, one, wrong, one), no, 2)
				stays(t, list(one, wrong, api.Member{Header: api.Header{Path: "\x00"}}), no, 1)
			}
		}
	}
}

func TestWriteOfWrongSizes(t *testing.T) {
	for _, data := range []string{"", "x", run("x", 512), run("x", api.MaxArchive)} {
		for _, size := range []int64{-1, 0, 1, 2, 511, 512, 513, 8589934591, 8589934592, math.MaxInt64, math.MinInt64, int64(len(data)) - 1, int64(len(data)) + 1, int64(len(data)) + 1<<32} {
			if size == int64(len(data)) {
				continue
			}
			m := member("a", data)
			m.Header.Size = size
			stays(t, list(m), api.ErrArg, 0)
			stays(t, list(one, one, m), api.ErrArg, 2)
		}
	}
}

func TestWriteOfManyBytes(t *testing.T) {
	// What an archive of one member has room for.
	most := api.MaxArchive - 1024 - 512
	all := run("x", most)
	for _, n := range []int{most - 512, most - 511, most - 1, most} {
		s := archiveOf(t, member("a", all[:n]))
		if len(s) != 1536+(n+511)/512*512 || s[512:512+n] != all[:n] || s[512+n:] != zeros(len(s)-512-n) {
			t.Fatalf("of %d bytes of data it has %d", n, len(s))
		}
		reads(t, s, member("a", all[:n]))
	}
	for _, n := range []int{most + 1, most + 512, most + 1024, most + 1536, most + 1<<20} {
		stays(t, list(member("a", run("x", n))), api.ErrMany, 0)
	}
	full := member("a", all)
	none := member("b", "")
	stays(t, list(full, none), api.ErrMany, 1)
	stays(t, list(full, none, api.Member{Header: api.Header{Path: "\x00"}}), api.ErrMany, 1)
	stays(t, list(full, api.Member{Header: api.Header{Path: "\x00"}}), api.ErrText, 1)
	wrong := one
	wrong.Header.Size = 2
	stays(t, list(full, wrong), api.ErrArg, 1)
	less := member("a", all[:most-1024])
	archiveOf(t, less, one)
	archiveOf(t, less, none, none)
	stays(t, list(less, none, one), api.ErrMany, 2)
	stays(t, list(less, one, none), api.ErrMany, 2)
	stays(t, list(less, none, none, none, wrong), api.ErrMany, 3)
}

func TestWriteOfManyMembers(t *testing.T) {
	most := api.MaxArchive/512 - 2
	l := slices.Repeat(list(member("a", "")), most+3)
	s := archiveOf(t, l[:most]...)
	if len(s) != api.MaxArchive {
		t.Errorf("it has %d bytes", len(s))
	}
	reads(t, s, l[:most]...)
	if entries, ok := archive.Any(s); !ok || len(entries) != most {
		t.Errorf("Any finds %d, %v", len(entries), ok)
	}
	stays(t, l[:most+1], api.ErrMany, most)
	stays(t, l, api.ErrMany, most)
}

// P11.2

func TestReadOfTheEnd(t *testing.T) {
	for _, l := range [][]api.Member{nil, list(one), list(member("b", ""), member("c", run("z", 512)))} {
		s := archiveOf(t, l...)
		for more := range 6 {
			reads(t, s+zeros(512*more), l...)
		}
		for n := 1; n < 512; n++ {
			stops(t, s+zeros(n), api.ErrShort, len(s))
			stops(t, s+run("x", n), api.ErrShort, len(s))
			stops(t, s+zeros(1024+n), api.ErrShort, len(s)+1024)
		}
		for block := range 3 {
			for _, at := range []int{0, 1, 255, 510, 511} {
				long := with(s+zeros(1024), len(s)-512+512*block+at, "\x01")
				stops(t, long, api.ErrLong, len(s)-512+512*block)
				// The first one decides, whatever stands behind it.
				stops(t, long+run("y", 600), api.ErrLong, len(s)-512+512*block)
				stops(t, long+"\x00", api.ErrLong, len(s)-512+512*block)
			}
		}
		// A member behind the end's first block, or behind the end, is none.
		stops(t, s[:len(s)-512]+archiveOf(t, one), api.ErrLong, len(s)-512)
		stops(t, s+archiveOf(t, one), api.ErrLong, len(s))
		stops(t, s[:len(s)-512], api.ErrShort, len(s)-512)
		stops(t, s[:len(s)-1024], api.ErrShort, len(s)-1024)
	}
}

func TestReadOfHeaders(t *testing.T) {
	two := member("b", run("w", 513))
	s := archiveOf(t, one, two)
	for _, begin := range []int{0, 1024} {
		stops(t, with(s, begin+257, "X"), api.ErrForm, begin)
		stops(t, with(s, begin+263, "01"), api.ErrForm, begin)
		stops(t, with(s, begin+100, "x"), api.ErrText, begin)
		stops(t, with(s, begin+148, "x"), api.ErrText, begin)
		stops(t, with(s, begin+148, "000001"), api.ErrSum, begin)
		stops(t, with(s, begin+156, "5"), api.ErrSum, begin)
		stops(t, with(s, begin, zeros(511)+"\x01"), api.ErrForm, begin)
		stops(t, with(s, begin, "\x01"+zeros(511)), api.ErrForm, begin)
		for n := range 512 {
			stops(t, s[:begin+n], api.ErrShort, begin)
		}
	}
	// Of two that are wrong the first one is told.
	stops(t, with(with(s, 1024+257, "X"), 156, "5"), api.ErrSum, 0)
	stops(t, with(s, 257, "X")[:600], api.ErrForm, 0)
}

// Headers that others write: blanks ahead of numbers, and any bytes in the last 12.
func TestReadOfForeignHeaders(t *testing.T) {
	s := archiveOf(t, one)
	s = with(s, 100, "  644\x00  ")
	s = with(s, 124, "         3 \x00")
	s = with(s, 500, "abcdefghijkl")
	reads(t, summed(s), one)
	finds(t, summed(s), file("a", "xyz"))
}

func TestReadOfData(t *testing.T) {
	for _, kind := range []byte{0, '0', '1', '2', '3', '4', '5', '6', '7', 'g', 'x', 0xff} {
		for _, n := range []int{0, 1, 511, 512, 513, 1024, 1025} {
			m := typed(kind, "d/", run("\x00y", n)[:n], "l")
			s := archiveOf(t, m, one)
			reads(t, s, m, one)
			for cut := 512; cut < len(s)-2048; cut += 1 + cut%7 {
				stops(t, s[:cut], api.ErrShort, 512)
			}
			// What stands behind the data in their last block is not looked at.
			if gap := (512 - n%512) % 512; gap > 0 {
				reads(t, with(s, 512+n, run("\xff", gap)), m, one)
				reads(t, with(s, 512+n, run("\x00\xff", gap)[:gap]), m, one)
			}
		}
	}
}

// Data may look like the end, or like a header.
func TestReadOfDataThatLooksLikeMore(t *testing.T) {
	m := member("m", zeros(2048)+archiveOf(t, one)+zeros(3))
	reads(t, archiveOf(t, m, one, m), m, one, m)
}

func TestReadOfGreatSizes(t *testing.T) {
	s := archiveOf(t, one)
	for _, size := range []string{"000000003001", "000000004000", "00000010001 ", "77777777777\x00", "777777777777", "400000000000", "37777777777\x00", "17777777777\x00", "17777777776 "} {
		stops(t, summed(with(s, 124, size)), api.ErrShort, 512)
		if size[0] != '0' {
			stops(t, summed(with(s, 124, size))+s, api.ErrShort, 512)
			stops(t, summed(with(s, 124, size))+zeros(1<<20), api.ErrShort, 512)
		}
	}
	m := member("a", "xyz"+zeros(509)+zeros(1024))
	stops(t, summed(with(s, 124, "000000003000")), api.ErrShort, 2048)
	reads(t, summed(with(s, 124, "000000003000"))+zeros(1024), m)
	reads(t, summed(with(s, 124, "000000002777"))+zeros(1024), member("a", m.Data[:1535]))
}

func TestReadOfManyBytes(t *testing.T) {
	s := archiveOf(t, one)
	reads(t, zeros(api.MaxArchive))
	reads(t, s+zeros(api.MaxArchive-len(s)), one)
	finds(t, s+zeros(api.MaxArchive-len(s)), file("a", "xyz"))
	stops(t, s+zeros(api.MaxArchive-len(s)-1), api.ErrShort, api.MaxArchive-512)
	stops(t, run("x", api.MaxArchive), api.ErrForm, 0)
	for _, more := range []int{1, 511, 512, 1 << 20} {
		stops(t, zeros(api.MaxArchive+more), api.ErrMany, api.MaxArchive)
		stops(t, s+zeros(api.MaxArchive-len(s)+more), api.ErrMany, api.MaxArchive)
		stops(t, run("x", api.MaxArchive+more), api.ErrMany, api.MaxArchive)
	}
}

// P11.3

func TestPack(t *testing.T) {
	for _, l := range [][]api.Entry{
		nil,
		{dir("d")},
		{dir("d"), file("d/f", "f"), link("l", "d/f")},
		{dir("a"), file("a/b", run("x", 513)), file("a.b", ""), {Path: "c", Kind: api.KFile, Mode: 0}, {Path: "e", Kind: api.KDir, Mode: 4095}},
		{dir(run("a", 96)), dir(run("a", 96) + "/b"), file(run("a", 96)+"/b/"+run("c", 90), "x"), link("l", run("t", 100))},
	} {
		var members []api.Member
		for _, e := range l {
			members = append(members, api.Member{Header: ustar.Of(e), Data: e.Data})
		}
		want := archiveOf(t, members...)
		if s, err := archive.Pack(l); err != nil || s != want {
			t.Errorf("Pack of %q is %d bytes, %v; not %d", fmt.Sprint(l), len(s), err, len(want))
		}
		reads(t, want, members...)
	}
}

func TestPackOfNoTrees(t *testing.T) {
	big := run("x", api.MaxFile)
	var heavy, many []api.Entry
	for i := range 16 {
		heavy = append(heavy, file(string(rune('a'+i)), big))
	}
	for i := range api.MaxEntries + 1 {
		many = append(many, file(fmt.Sprintf("%04d", i), ""))
	}
	for _, x := range []struct {
		l  []api.Entry
		no api.Errno
		at int
	}{
		{[]api.Entry{{}}, api.ErrKind, 0},
		{[]api.Entry{dir("a"), file("", "x")}, api.ErrRoot, 1},
		{[]api.Entry{dir("a"), dir("a/..")}, api.ErrName, 1},
		{[]api.Entry{dir(".wh.a")}, api.ErrName, 0},
		{[]api.Entry{dir(run("a/", 32) + "a")}, api.ErrPath, 0},
		{[]api.Entry{dir("a"), {Path: "b", Kind: api.KDir, Mode: 4096}}, api.ErrMode, 1},
		{[]api.Entry{link("b", "")}, api.ErrLink, 0},
		{[]api.Entry{file("a", big+"x")}, api.ErrMany, 0},
		{[]api.Entry{{Path: "a", Kind: api.KDir, Data: "x"}}, api.ErrForm, 0},
		{[]api.Entry{dir("a"), dir("b"), dir("b")}, api.ErrTwice, 2},
		{[]api.Entry{dir("a"), file("a.b", "x"), file("a/b", "x")}, api.ErrArg, 2},
		{[]api.Entry{dir("a"), dir("b/c")}, api.ErrNone, 1},
		{[]api.Entry{file("a", "x"), dir("a/b")}, api.ErrDir, 1},
		{many, api.ErrMany, api.MaxEntries},
		{append(heavy, file("z", "x")), api.ErrMany, 16},
	} {
		s, err := archive.Pack(x.l)
		refused(t, "Pack of what is no tree", err, x.no, x.at)
		if s != "" {
			t.Errorf("beside an error: %.100q", s)
		}
	}
}

// The greatest tree there is has an archive, and is found in it, and in its gzip, too.
func TestPackOfTheGreatestTree(t *testing.T) {
	var l []api.Entry
	for i := range api.MaxEntries {
		l = append(l, file(fmt.Sprintf("%04d", i), run("x", api.MaxTree/api.MaxEntries-1+i%2*2)))
	}
	s, err := archive.Pack(l)
	if err != nil || len(s) > api.MaxArchive {
		t.Fatalf("%d bytes, %v", len(s), err)
	}
	finds(t, s, l...)
	finds(t, flate.Gzip(s), l...)
}

// P11.4

func TestAnyOfEachType(t *testing.T) {
	for kind := range 256 {
		for _, p := range []string{"", "a", "a/b", "/", "a/", "./d/", "../x", "a//", "/a", ".wh.a", "a/.", run("a", 99) + "/", run("p", 120) + "/" + run("n", 99) + "/"} {
			for _, data := range []string{"", "x", "\x00", run("x", 513)} {
				for _, to := range []string{"", "t", run("t", 100), "/"} {
					m := typed(byte(kind), p, data, to)
					s := archiveOf(t, m)
					want, ok := plainEntry(m)
					if !ok {
						nothing(t, s)
						continue
					}
					finds(t, s, want)
				}
			}
		}
	}
}

// The chapter's table, row by row.
func TestAnyOfTheTable(t *testing.T) {
	for _, kind := range []byte{'0', 0} {
		finds(t, archiveOf(t, typed(kind, "f", "x", "")), file("f", "x"))
		finds(t, archiveOf(t, typed(kind, "f", "", "not told")), file("f", ""))
		finds(t, archiveOf(t, typed(kind, "f/", "", "not told")), api.Entry{Path: "f/", Kind: api.KDir, Mode: 420})
		nothing(t, archiveOf(t, typed(kind, "f/", "x", "")))
	}
	finds(t, archiveOf(t, typed('5', "d", "", "not told")), api.Entry{Path: "d", Kind: api.KDir, Mode: 420})
	finds(t, archiveOf(t, typed('5', "d/", "", "")), api.Entry{Path: "d/", Kind: api.KDir, Mode: 420})
	nothing(t, archiveOf(t, typed('5', "d", "x", "")))
	finds(t, archiveOf(t, typed('2', "l", "", "t")), link("l", "t"))
	finds(t, archiveOf(t, typed('2', "l/", "", "../t")), link("l/", "../t"))
	nothing(t, archiveOf(t, typed('2', "l", "", "")))
	nothing(t, archiveOf(t, typed('2', "l", "x", "t")))
	for _, kind := range []byte{'1', '3', '4', '6', '7', 'x', 'g', 'L', 'K', 'S', ' ', 'A'} {
		nothing(t, archiveOf(t, typed(kind, "a", "", "b")))
		nothing(t, archiveOf(t, one, typed(kind, "a", "", "b"), one))
	}
}

func TestAnyOfModes(t *testing.T) {
	for _, mode := range []int64{0, 1, 420, 493, 511, 512, 4095, 4096, 4097, 8191, 33188, 1<<20 - 1, 1 << 20, 2097151} {
		for _, m := range list(typed('0', "f", "x", ""), typed(0, "d/", "", ""), typed('5', "d", "", ""), typed('2', "l", "", "t")) {
			m.Header.Mode = mode
			m.Header.Uid, m.Header.Gid, m.Header.Time, m.Header.User, m.Header.Group, m.Header.Major, m.Header.Minor = 1, 2, 3, "u", "g", 4, 5
			want := int(mode % 4096)
			if m.Header.Type == '2' {
				want = 511
			}
			if l, ok := archive.Any(archiveOf(t, m)); !ok || len(l) != 1 || l[0].Mode != want {
				t.Errorf("of the mode %d: %v, %v", mode, l, ok)
			}
		}
	}
	// Others write modes of eight digits.
	s := summed(with(archiveOf(t, one), 100, "77777777"))
	finds(t, s, api.Entry{Path: "a", Kind: api.KFile, Mode: 4095, Data: "xyz"})
}

// What stands there need be no tree.
func TestAnyOfNoTrees(t *testing.T) {
	l := list(member("../x", "1"), member("a", "2"), member("a", "3"), member("", "4"), typed('5', "", "", ""), typed('2', "a/b/c", "", "/.."), member("a", "2"), typed('0', "/", "", ""))
	finds(t, archiveOf(t, l...), file("../x", "1"), file("a", "2"), file("a", "3"), file("", "4"), api.Entry{Kind: api.KDir, Mode: 420}, link("a/b/c", "/.."), file("a", "2"), api.Entry{Path: "/", Kind: api.KDir, Mode: 420})
}

// One member that is nothing is enough, wherever it stands.
func TestAnyOfOneWrongMember(t *testing.T) {
	wrong := typed('1', "h", "", "a")
	for at := range 5 {
		l := slices.Insert(slices.Repeat(list(one), 4), at, wrong)
		nothing(t, archiveOf(t, l...))
		nothing(t, flate.Gzip(archiveOf(t, l...)))
	}
	s := archiveOf(t, one, one)
	nothing(t, s[:len(s)-1])
	nothing(t, s+"x")
	nothing(t, with(s, 1024, "b"))
}

func TestAnyOfGreatFiles(t *testing.T) {
	big := run("x", api.MaxFile)
	finds(t, archiveOf(t, member("a", big)), file("a", big))
	for _, kind := range []byte{'0', 0} {
		nothing(t, archiveOf(t, typed(kind, "a", big+"x", "")))
		nothing(t, archiveOf(t, one, typed(kind, "a", big+"x", "")))
	}
	// All of it together may be more than a tree has.
	l, ok := archive.Any(archiveOf(t, slices.Repeat(list(member("a", big)), 20)...))
	if !ok || len(l) != 20 {
		t.Errorf("%d, %v", len(l), ok)
	}
}

func TestAnyOfGzip(t *testing.T) {
	s := archiveOf(t, one)
	z := flate.Gzip(s)
	finds(t, z, file("a", "xyz"))
	for n := range len(z) {
		nothing(t, z[:n])
	}
	nothing(t, z+"\x00")
	nothing(t, z+z)
	nothing(t, with(z, len(z)-8, "\xff\xff"))
	nothing(t, with(z, 2, "\x09"))
	nothing(t, flate.Gzip(""))
	nothing(t, flate.Gzip("hello"))
	nothing(t, flate.Gzip(zeros(1024)))
	nothing(t, flate.Gzip(s[:len(s)-1]))
	// The gzip of a gzip is none.
	nothing(t, flate.Gzip(z))
	nothing(t, "\x1f\x8b")
	// As others write it, with a name in its head.
	var out bytes.Buffer
	w := gzip.NewWriter(&out)
	w.Name, w.Comment, w.Extra = "a.tar", "a remark", []byte("more")
	io.WriteString(w, s)
	w.Close()
	finds(t, out.String(), file("a", "xyz"))
}

// What begins as a gzip does is one, or nothing; what is in a gzip may begin so.
func TestAnyOfPathsThatLookLikeGzip(t *testing.T) {
	for _, p := range []string{"\x1f\x8b", "\x1f\x8b\x08\x01", "\x1f\x8bx/y"} {
		s := archiveOf(t, member(p, "xyz"))
		reads(t, s, member(p, "xyz"))
		nothing(t, s)
		finds(t, flate.Gzip(s), file(p, "xyz"))
		finds(t, archiveOf(t, one, member(p, "xyz")), file("a", "xyz"), file(p, "xyz"))
	}
	for _, p := range []string{"\x1f", "\x1fx", "\x8b\x1f", "x\x1f\x8b"} {
		finds(t, archiveOf(t, member(p, "xyz")), file(p, "xyz"))
	}
}

func TestAnyOfGzipOfManyBytes(t *testing.T) {
	s := archiveOf(t, one)
	finds(t, flate.Gzip(s+zeros(api.MaxArchive-len(s))), file("a", "xyz"))
	nothing(t, flate.Gzip(s+zeros(api.MaxArchive-len(s)+512)))
	nothing(t, flate.Gzip(s+zeros(api.MaxArchive-len(s)+1)))
}

// P11.5

// someMember has, mostly, few bytes, and any header that can be written.
func someMember(r *rand.Rand) api.Member {
	paths := []string{"", "a", "a/", "./d/", "../x", "\x1f\x8b", run("p", 100) + "/" + run("n", 100), ".wh.x", "\xff", "/"}
	data := []string{"", "", "", "x", zeros(512), run("y", 511), run("z", 1025), zeros(3) + "w"}[r.Intn(8)]
	m := api.Member{Data: data, Header: api.Header{
		Path: paths[r.Intn(len(paths))], Mode: r.Int63n(2097152), Uid: r.Int63n(2097152), Gid: r.Int63n(2), Size: int64(len(data)), Time: r.Int63n(8589934592),
		Type: "00\x005521x"[r.Intn(8)], Link: []string{"", "t", run("t", 100)}[r.Intn(3)], User: run("u", r.Intn(32)), Group: run("g", r.Intn(32)), Major: r.Int63n(9), Minor: r.Int63n(2097152),
	}}
	if r.Intn(3) > 0 { // one that Any takes
		m.Header.Type, m.Header.Link = '0', ""
		if strings.HasSuffix(m.Header.Path, "/") {
			m.Header.Size, m.Data = 0, ""
		}
	}
	return m
}

func someMembers(r *rand.Rand, most int) []api.Member {
	var l []api.Member
	for range r.Intn(most + 1) {
		l = append(l, someMember(r))
	}
	return l
}

func TestThereAndBack(t *testing.T) {
	r := rand.New(rand.NewSource(1))
	for range 2000 {
		l := someMembers(r, 8)
		s := archiveOf(t, l...)
		blocks := 2
		for _, m := range l {
			blocks += 1 + (len(m.Data)+511)/512
		}
		if want, _, _ := plainWrite(l); s != want || len(s) != 512*blocks {
			t.Fatalf("Write of %s is %d bytes, not %d", told(l), len(s), len(want))
		}
		reads(t, s, l...)
		again, err := archive.Read(s)
		if err != nil || archiveOf(t, again...) != s {
			t.Fatalf("%s are written again as another archive", told(l))
		}
		agree(t, s)
	}
}

func TestEveryShorterBeginning(t *testing.T) {
	r := rand.New(rand.NewSource(2))
	for range 6 {
		s := archiveOf(t, append(someMembers(r, 3), one)...)
		for n := range len(s) {
			if _, no, at := plainRead(s[:n]); no != api.ErrShort {
				t.Fatalf("the second telling says %v", no)
			} else {
				stops(t, s[:n], api.ErrShort, at)
			}
		}
	}
}

// R1, P11.2, P11.4: whatever the bytes.
func TestArchivesThatWereTurned(t *testing.T) {
	r := rand.New(rand.NewSource(3))
	taken, counts := 0, map[api.Errno]int{}
	for range 20000 {
		s := archiveOf(t, someMembers(r, 4)...)
		for range r.Intn(3) {
			s = turned(r, s)
		}
		agree(t, s)
		_, no, _ := plainRead(s)
		counts[no]++
		if _, ok := plainAny(s); ok {
			taken++
		}
	}
	for _, no := range []api.Errno{api.OK, api.ErrShort, api.ErrLong, api.ErrForm, api.ErrText, api.ErrSum} {
		if counts[no] < 100 {
			t.Errorf("only %d answers are %v", counts[no], no)
		}
	}
	if taken < 1000 {
		t.Errorf("only %d had entries", taken)
	}
}

// turned is a text with something in it changed.
func turned(r *rand.Rand, s string) string {
	if len(s) < 512 {
		return s + zeros(r.Intn(1200))
	}
	block := 512 * r.Intn(len(s)/512)
	switch r.Intn(8) {
	case 0:
		return s[:r.Intn(len(s))]
	case 1:
		return s + zeros(512*r.Intn(3)) + run("q", r.Intn(3))
	case 2:
		return with(s, r.Intn(len(s)), string([]byte{byte(r.Intn(256))}))
	case 3: // a block goes
		return s[:block] + s[block+512:]
	case 4: // a block comes twice
		return s[:block+512] + s[block:]
	case 5: // a block of bytes 0 comes
		return s[:block] + zeros(512) + s[block:]
	case 6: // a byte of one block's header, which is summed again
		at := block + []int{100, 124, 133, 134, 135, 156, 156, 257, 263}[r.Intn(9)]
		text := "0123567x \x00"
		i := r.Intn(len(text))
		return s[:block] + summed(with(s, at, text[i:i+1])[block:])
	}
	return with(s, block, zeros(512))
}

func TestAnyBytes(t *testing.T) {
	r := rand.New(rand.NewSource(4))
	for range 3000 {
		b := make([]byte, r.Intn(3000))
		if r.Intn(2) > 0 {
			r.Read(b)
		}
		agree(t, string(b))
		if len(b) > 2 {
			nothing(t, "\x1f\x8b"+string(b))
		}
	}
}

// P11.6

func someTree(r *rand.Rand) []api.Entry {
	x := tree.New()
	names := []string{"a", "b", "a.b", "\x1f\x8b", "\xff", run("n", 90)}
	for range r.Intn(30) {
		p := names[r.Intn(len(names))]
		for r.Intn(2) > 0 {
			p += "/" + names[r.Intn(len(names))]
		}
		switch r.Intn(5) {
		case 0:
			x.Put(file(p, run("x", r.Intn(1200))))
		case 1:
			x.Put(link(p, "t/"+p[:1]))
		default:
			x.Put(api.Entry{Path: p, Kind: api.KDir, Mode: r.Intn(4096)})
		}
	}
	return x.List()
}

func TestAnyOfPack(t *testing.T) {
	r := rand.New(rand.NewSource(5))
	hidden := 0
	for range 2000 {
		l := someTree(r)
		s, err := archive.Pack(l)
		if err != nil {
			t.Fatal(err)
		}
		if len(l) == 0 {
			nothing(t, s)
			nothing(t, flate.Gzip(s))
			continue
		}
		finds(t, flate.Gzip(s), l...)
		if strings.HasPrefix(l[0].Path, "\x1f\x8b") {
			hidden++
			nothing(t, s)
			continue
		}
		finds(t, s, l...)
	}
	if hidden < 20 {
		t.Errorf("only %d began as a gzip does", hidden)
	}
}

// R4

// spoiled is a row with spare room behind it, in which something stands.
func spoiled[E any](l []E, e E) []E {
	room := append(make([]E, 0, len(l)+5), l...)
	for i := range 5 {
		room[:len(l)+5][len(l)+i] = e
	}
	return room
}

func TestMemory(t *testing.T) {
	l := spoiled(list(one, member("b", run("y", 600))), member("spare", ""))
	entries := spoiled([]api.Entry{dir("d"), file("d/f", "f")}, file("z", "z"))
	allMembers, allEntries := slices.Clone(l[:cap(l)]), slices.Clone(entries[:cap(entries)])
	s, err := archive.Write(l)
	if err != nil {
		t.Fatal(err)
	}
	packed, err := archive.Pack(entries)
	if err != nil {
		t.Fatal(err)
	}
	if !slices.Equal(l[:cap(l)], allMembers) || !slices.Equal(entries[:cap(entries)], allEntries) {
		t.Fatal("an argument was changed")
	}
	for range 2 {
		members, err := archive.Read(s)
		found, ok := archive.Any(packed)
		if err != nil || !ok || !slices.Equal(members, l) || !slices.Equal(found, entries) {
			t.Fatalf("%v, %v", members, found)
		}
		clear(members[:cap(members)])
		clear(found[:cap(found)])
	}
}

// W5: archives are those of POSIX.1-1988, so another reader and another writer of them agree.

func TestAnotherReader(t *testing.T) {
	l := []api.Entry{dir("d"), file("d/e", run("e", 700)), file("d/f", ""), link("d/l", "../d/e"), dir(run("n", 96)), file(run("n", 96)+"/"+run("m", 96), "x")}
	s, err := archive.Pack(l)
	if err != nil {
		t.Fatal(err)
	}
	r := tar.NewReader(strings.NewReader(s))
	kinds := map[byte]api.Kind{tar.TypeDir: api.KDir, tar.TypeReg: api.KFile, tar.TypeSymlink: api.KLink}
	var got []api.Entry
	for {
		h, err := r.Next()
		if err == io.EOF {
			break
		}
		if err != nil {
			t.Fatal(err)
		}
		data, err := io.ReadAll(r)
		if err != nil || h.Format != tar.FormatUSTAR {
			t.Fatal(h.Format, err)
		}
		got = append(got, api.Entry{Path: h.Name, Kind: kinds[h.Typeflag], Mode: int(h.Mode), Data: string(data), Link: h.Linkname})
	}
	if !slices.Equal(got, l) {
		t.Errorf("another reader finds %q", fmt.Sprint(got))
	}
}

func TestAnotherWriter(t *testing.T) {
	var out bytes.Buffer
	w := tar.NewWriter(&out)
	for _, h := range []tar.Header{
		{Name: "./", Typeflag: tar.TypeDir, Mode: 0o755},
		{Name: "./d/", Typeflag: tar.TypeDir, Mode: 0o700, Uname: "me", Gname: "us"},
		{Name: "./d/f", Typeflag: tar.TypeReg, Mode: 0o644, Size: 600, Uid: 1000, ModTime: time.Unix(1234567890, 0)},
		{Name: "./d/l", Typeflag: tar.TypeSymlink, Linkname: "f", Mode: 0o777},
	} {
		h.Format = tar.FormatUSTAR
		if err := w.WriteHeader(&h); err != nil {
			t.Fatal(err)
		}
		io.WriteString(w, run("f", int(h.Size)))
	}
	w.Close()
	s := out.String()
	want := []api.Entry{{Path: "./", Kind: api.KDir, Mode: 493}, {Path: "./d/", Kind: api.KDir, Mode: 448}, file("./d/f", run("f", 600)), link("./d/l", "f")}
	finds(t, s, want...)
	finds(t, flate.Gzip(s), want...)
	// Others fill up the end with more blocks.
	finds(t, s+zeros(10240-len(s)%10240), want...)
	l, err := archive.Read(s)
	if err != nil || archiveOf(t, l...) != s {
		t.Errorf("written again it is another archive: %v", err)
	}
}
