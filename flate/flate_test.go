package flate_test

import (
	"bytes"
	libflate "compress/flate"
	"compress/gzip"
	"errors"
	"fmt"
	"hash/crc32"
	"io"
	"math"
	"math/rand"
	"slices"
	"strings"
	"testing"

	"strata/api"
	"strata/flate"
)

// run is a text of n pieces.
func run(piece string, n int) string { return strings.Repeat(piece, n) }

// all is each byte once.
func all() string {
	b := make([]byte, 256)
	for i := range b {
		b[i] = byte(i)
	}
	return string(b)
}

// random is a text of n of the first kinds bytes.
func random(r *rand.Rand, n, kinds int) string {
	b := make([]byte, n)
	for i := range b {
		b[i] = byte(r.Intn(kinds))
	}
	return string(b)
}

// patched is a text in which much stands twice: pieces that are new, and pieces from ahead.
func patched(r *rand.Rand, n, kinds int) string {
	var b []byte
	for len(b) < n {
		if len(b) == 0 || r.Intn(2) == 0 {
			b = append(b, random(r, 1+r.Intn(20), kinds)...)
			continue
		}
		from := r.Intn(len(b))
		b = append(b, b[from:min(len(b), from+1+r.Intn(300))]...)
	}
	return string(b[:n])
}

// short is a text for a message.
func short(s string) string {
	if len(s) > 60 {
		return fmt.Sprintf("%x.. (%d bytes)", s[:60], len(s))
	}
	return fmt.Sprintf("%x", s)
}

// onlyError fails unless err is or wraps just the number no, and tells no place.
func onlyError(t *testing.T, call string, err error, no api.Errno) {
	t.Helper()
	for other := api.ErrArg; other <= api.ErrEmpty; other++ {
		if errors.Is(err, other) != (other == no) {
			t.Fatalf("%s: the error is %v, not %v", call, err, no)
		}
	}
	var fault api.Fault
	if errors.As(err, &fault) {
		t.Fatalf("%s: the error tells a place", call)
	}
}

// wantDeflated fails unless Deflate answers just what the chapter asks.
func wantDeflated(t *testing.T, s string) {
	t.Helper()
	got, want := flate.Deflate(s), plainDeflate(s)
	if got != want {
		t.Fatalf("Deflate(%s) is %s, not %s", short(s), short(got), short(want))
	}
}

// wantInflated fails unless Inflate answers this text, with so many bytes.
func wantInflated(t *testing.T, s string, most int, text string, n int) {
	t.Helper()
	got, used, err := flate.Inflate(s, most)
	if err != nil || got != text || used != n {
		t.Fatalf("Inflate(%s, %d) is %s, %d, %v, not %s, %d", short(s), most, short(got), used, err, short(text), n)
	}
}

// wantRefused fails unless Inflate answers this error alone.
func wantRefused(t *testing.T, s string, most int, no api.Errno) {
	t.Helper()
	call := fmt.Sprintf("Inflate(%s, %d)", short(s), most)
	text, n, err := flate.Inflate(s, most)
	onlyError(t, call, err, no)
	if text != "" || n != 0 {
		t.Fatalf("%s: beside the error stand %s and %d", call, short(text), n)
	}
}

// wantPlain fails unless Inflate answers what the plain reader does.
func wantPlain(t *testing.T, s string, most int) api.Errno {
	t.Helper()
	text, n, no := plainInflate(s, most)
	if no != 0 {
		wantRefused(t, s, most, no)
	} else {
		wantInflated(t, s, most, text, n)
	}
	return no
}

// P6.1

func TestDeflateExamples(t *testing.T) {
	for _, x := range []struct{ s, want string }{
		{"", "\x03\x00"},
		{"a", "\x4b\x04\x00"},
		{"aaaaaaaaaa", "\x4b\x84\x03\x00"},
		{all(), "\x01\x00\x01\xff\xfe" + all()},
	} {
		if got := flate.Deflate(x.s); got != x.want {
			t.Errorf("Deflate(%s) is %s, not %s", short(x.s), short(got), short(x.want))
		}
	}
}

func TestDeflateEachShortText(t *testing.T) {
	for _, kinds := range []string{"ab", "a\xff", "\x00\x90\x8f"} {
		texts := []string{""}
		for range 9 {
			var longer []string
			for _, s := range texts {
				wantDeflated(t, s)
				for i := range len(kinds) {
					longer = append(longer, s+kinds[i:i+1])
				}
			}
			texts = longer
		}
	}
}

func TestDeflateOfManyTexts(t *testing.T) {
	r := rand.New(rand.NewSource(61))
	for range 600 {
		n, kinds := r.Intn(3000), []int{1, 2, 3, 5, 20, 100, 145, 200, 256}[r.Intn(9)]
		wantDeflated(t, random(r, n, kinds))
		wantDeflated(t, patched(r, n, kinds))
	}
}

func TestDeflateBeyondTheWindow(t *testing.T) {
	r := rand.New(rand.NewSource(62))
	for _, n := range []int{32767, 32768, 32769, 65534, 65537, 98304, 98305, 200000, 400000} {
		for _, kinds := range []int{2, 8, 64, 256} {
			wantDeflated(t, patched(r, n, kinds))
		}
		wantDeflated(t, run("x", n))
		wantDeflated(t, random(r, n, 40))
		wantDeflated(t, run(random(r, 32768, 256), 3)[:min(n, 98304)])
		wantDeflated(t, run(random(r, 32769, 256), 3)[:min(n, 98307)])
	}
}

// filler is bytes in which no letter stands, and which the short form is best for.
func filler(n int) string { return random(rand.New(rand.NewSource(int64(n))), n, 'A') }

func TestDeflateDistances(t *testing.T) {
	for distance := 1; distance <= 32775; distance++ {
		// all of the small ones, those around the powers of two and the window, some of the others
		if distance > 300 && distance%509 > 1 && distance&(distance-1) != 0 && distance < 32760 {
			continue
		}
		s := ("WXYZ" + filler(distance))[:distance]
		wantDeflated(t, s+s[:min(4, distance)]+"!")
		wantDeflated(t, s+s[:min(4, distance)])
	}
}

func TestDeflateLengths(t *testing.T) {
	r := rand.New(rand.NewSource(63))
	for length := 1; length <= 600; length++ {
		piece := random(r, length, 256)
		wantDeflated(t, piece+"-"+piece+"+")
		wantDeflated(t, piece+"-"+piece)
		wantDeflated(t, run("q", length))
		wantDeflated(t, run("pq", length)+"p")
	}
}

// far is a text in which the best match for its end lies tries places back; all nearer ones are shorter.
func far(tries int) string {
	s := "abcLONGER"
	for i := range tries {
		s += "abc" + string(rune('0'+i%10)) + string(rune('A'+i/10))
	}
	return s + "abcLONGER"
}

func TestDeflateLooksAt64Places(t *testing.T) {
	for tries := 55; tries <= 75; tries++ {
		wantDeflated(t, far(tries))
	}
}

func TestDeflateTakesTheNearestOfTheLongest(t *testing.T) {
	for _, s := range []string{
		"abcd1abcd2abcd", "abcd1abc2abcd3", "abcdE1abcd2abcdE", "abc1abc2abc3abc", "abcX1abcX2abcY3abcX",
		run("a", 258) + "b" + run("a", 300) + "c" + run("a", 259), run("ab", 200) + "c" + run("ab", 200),
	} {
		wantDeflated(t, s)
	}
	// a length of 4, 5 bytes back: the symbol 258 and the distance 4 with a bit 0
	want := bytesOf(fixed(code("abcd1")) + "0000010" + "00100" + "0" + code("2") + "0000010" + "00100" + "0" + "0000000")
	if got := flate.Deflate("abcd1abcd2abcd"); got != want {
		t.Errorf("Deflate of abcd three times is %x, not %x", got, want)
	}
}

// code is the bits of small bytes in the fixed code.
func code(s string) string {
	bits := ""
	for i := range len(s) {
		bits += fmt.Sprintf("%08b", 0x30+int(s[i]))
	}
	return bits
}

func TestDeflateStored(t *testing.T) {
	r := rand.New(rand.NewSource(64))
	for _, n := range []int{65534, 65535, 65536, 65537, 131069, 131070, 131071, 196605, 196606} {
		s := random(r, n, 256)
		blocks := (n + 65534) / 65535
		got := flate.Deflate(s)
		if len(got) != n+5*blocks || got != plainStored(s) {
			t.Errorf("Deflate of %d bytes by chance is %s", n, short(got))
		}
	}
}

func TestDeflateTakesTheStoredFormIfBothAreAsLong(t *testing.T) {
	// 9 bits a byte for n bytes, and 10 bits around: as long as 8 bits and 40 bits around, from 23 bytes on
	for n := 20; n <= 40; n++ {
		s := ""
		for i := range n {
			s += string([]byte{byte(144 + 3*i)})
		}
		short, stored := plainShort(s), plainStored(s)
		want := short
		if len(stored) <= len(short) {
			want = stored
		}
		if got := flate.Deflate(s); got != want {
			t.Errorf("Deflate of %d high bytes is %x, not %x", n, got, want)
		}
		if n == 24 && len(stored) != len(short) {
			t.Errorf("the forms of 24 high bytes are not as long: %d and %d", len(stored), len(short))
		}
	}
}

func TestDeflateIsReadByOthers(t *testing.T) {
	r := rand.New(rand.NewSource(65))
	for range 100 {
		s := patched(r, r.Intn(100000), 1+r.Intn(256))
		b, err := io.ReadAll(libflate.NewReader(strings.NewReader(flate.Deflate(s))))
		if err != nil || string(b) != s {
			t.Fatalf("another reader takes Deflate of %d bytes for %d, %v", len(s), len(b), err)
		}
	}
}

// P6.2

func TestInflateExamples(t *testing.T) {
	wantInflated(t, "\x03\x00\xff", 0, "", 2)
	wantInflated(t, "\x4b\x04\x00", 1, "a", 3)
	wantInflated(t, "\x01\x01\x00\xfe\xff\x61", 1, "a", 6)
	wantRefused(t, "\x4b\x04\x00", 0, api.ErrMany)
	wantRefused(t, "\x4b\x04", 9, api.ErrShort)
	wantRefused(t, "\x07", 9, api.ErrForm)
	wantRefused(t, "\x01\x01\x00\xff\xff\x61", 9, api.ErrForm)
	wantRefused(t, "\x4b\x04\x00", -5, api.ErrMany)
	wantRefused(t, "\x03\x02\x00", 9, api.ErrForm)
	wantRefused(t, "\x05\x00", 9, api.ErrShort)
}

func TestInflateMost(t *testing.T) {
	for _, most := range []int{0, -1, math.MinInt} {
		wantInflated(t, "\x03\x00", most, "", 2)
		wantInflated(t, "\x01\x00\x00\xff\xff", most, "", 5)
		wantRefused(t, "\x4b\x04\x00", most, api.ErrMany)
	}
	wantInflated(t, flate.Deflate("abcabcabc"), math.MaxInt, "abcabcabc", len(flate.Deflate("abcabcabc")))
	for _, s := range []string{"a", run("a", 300), "abcabcabcabc", all(), all() + all(), run("x", 70000)} {
		for _, z := range []string{flate.Deflate(s), libDeflated(t, s, 9), libDeflated(t, s, 0)} {
			wantInflated(t, z, len(s), s, len(z))
			wantRefused(t, z, len(s)-1, api.ErrMany)
		}
	}
}

// libDeflated is a text as another writer deflates it.
func libDeflated(t *testing.T, s string, level int) string {
	t.Helper()
	var b bytes.Buffer
	w, err := libflate.NewWriter(&b, level)
	if err == nil {
		_, err = w.Write([]byte(s))
	}
	if err == nil {
		err = w.Close()
	}
	if err != nil {
		t.Fatal(err)
	}
	return b.String()
}

func TestInflateReadsOthers(t *testing.T) {
	r := rand.New(rand.NewSource(66))
	for i := range 300 {
		s := patched(r, r.Intn(20000), 1+r.Intn(256))
		if i%2 == 0 {
			s = random(r, r.Intn(20000), 1+r.Intn(256))
		}
		z := libDeflated(t, s, i%12-2)
		wantInflated(t, z, len(s), s, len(z))
		wantInflated(t, z+random(r, r.Intn(9), 256), len(s)+r.Intn(9), s, len(z))
	}
	long := patched(r, 300000, 200) + random(r, 100000, 256)
	for level := -2; level <= 9; level++ {
		z := libDeflated(t, long, level)
		wantInflated(t, z, len(long), long, len(z))
	}
}

func TestInflateStored(t *testing.T) {
	// what is left of the first byte isn't looked at
	for _, first := range []string{"\x01", "\xf9", "\xa9"} {
		wantInflated(t, first+"\x02\x00\xfd\xffab??", 2, "ab", 7)
	}
	wantInflated(t, "\x00\x02\x00\xfd\xffab\x00\x00\x00\xff\xff\x01\x01\x00\xfe\xffc", 3, "abc", 18)
	big := random(rand.New(rand.NewSource(67)), 65535, 256)
	wantInflated(t, "\x01\xff\xff\x00\x00"+big, 65535, big, 65540)
	wantInflated(t, "\x01\x02\x01\xfd\xfe"+big[:258], 258, big[:258], 263)
	for n := range 5 {
		wantRefused(t, "\x01\x02\x00\xfd\xffab"[:n], 2, api.ErrShort)
	}
	for _, turned := range []string{"\xff\xff", "\xfd\xfe", "\x02\x00", "\xfc\xff", "\xfd\x7f"} {
		wantRefused(t, "\x01\x02\x00"+turned+"ab", 0, api.ErrForm)
		wantRefused(t, "\x01\x02\x00"+turned[:1], 0, api.ErrShort)
	}
	// room is asked for ahead of each byte
	wantRefused(t, "\x01\x02\x00\xfd\xff", 0, api.ErrMany)
	wantRefused(t, "\x01\x02\x00\xfd\xff", 1, api.ErrShort)
	wantRefused(t, "\x01\x02\x00\xfd\xffa", 1, api.ErrMany)
	wantRefused(t, "\x01\x02\x00\xfd\xffa", 2, api.ErrShort)
	wantRefused(t, "\x01\x03\x00\xfc\xffab", 1, api.ErrMany)
	wantRefused(t, "\x00\x02\x00\xfd\xffab\x01\x01\x00\xfe\xff", 2, api.ErrMany)
	// a stored block behind one that ends within a byte
	wantInflated(t, bytesOf("010"+"0000000"+"100")+"\x01\x00\xfe\xffz", 1, "z", 7)
	// and one behind that, at whatever bit
	for k := range 9 {
		bits := run("010"+"0000000", k) + "000"
		bits += run("1", (8-len(bits)%8)%8)
		s := bytesOf(bits) + "\x01\x00\xfe\xffz" + "\x03\x00"
		wantInflated(t, s, 1, "z", len(s))
	}
}

// fixed is a block of the fixed codes.
func fixed(symbols ...string) string { return "110" + strings.Join(symbols, "") }

func TestInflateFixed(t *testing.T) {
	const end, length3 = "0000000", "0000001"
	one := code("a")
	wantInflated(t, bytesOf(fixed(one, length3, "00000", end)), 4, "aaaa", 4)
	// 284 with all bits set is 258, as 285 is
	wantInflated(t, bytesOf(fixed(one, "11000100", "11111", "00000", end)), 259, run("a", 259), 5)
	wantInflated(t, bytesOf(fixed(one, "11000101", "00000", end)), 259, run("a", 259), 4)
	wantInflated(t, bytesOf(fixed(one, "11000100", "01111", "00000", end)), 258, run("a", 258), 5)
	// the symbols 286 and 287 are none, and nothing is read behind them
	for _, none := range []string{"11000110", "11000111"} {
		wantRefused(t, bytesOf("010"+end+"1"+"10"+"010"), 9, api.ErrShort)
		bits := fixed(code("aaaaaaaa"), none)
		wantRefused(t, bytesOf(bits+run("0", (8-len(bits)%8)%8)), 8, api.ErrForm)
		bits = "010" + end + run("010"+end, 4) + fixed(none) // ends with a byte's end less 5 bits
		wantRefused(t, bytesOf(bits), 8, api.ErrForm)
	}
	// distances of 30 and 31 are none
	for _, none := range []string{"11110", "11111"} {
		wantRefused(t, bytesOf(fixed(one, length3, none)), 9, api.ErrForm)
		wantRefused(t, bytesOf(fixed(one, length3, none)), 1, api.ErrForm)
	}
	// ahead of the beginning: told ahead of the lack of room
	wantRefused(t, bytesOf(fixed(one, length3, "00001", end)), 1, api.ErrForm)
	wantRefused(t, bytesOf(fixed(one, length3, "00000", end)), 3, api.ErrMany)
	wantRefused(t, bytesOf(fixed(one, length3, "00000", end)), 1, api.ErrMany)
}

func TestInflateEachLengthAndDistance(t *testing.T) {
	r := rand.New(rand.NewSource(68))
	ahead := random(r, 32768, 256)
	stored := "\x00\x00\x80\xff\x7f" + ahead
	literal := turned(fixedLiterals)
	try := func(length, distance int) {
		i, more := spanOf(plainLengths(), length)
		k, rest := spanOf(plainDistances(), distance)
		z := stored + bytesOf(fixed(literal[257+i], more, fmt.Sprintf("%05b", k), rest, literal[256]))
		want := []byte(ahead)
		for range length {
			want = append(want, want[len(want)-distance])
		}
		wantInflated(t, z, len(want), string(want), len(z))
	}
	for length := 3; length <= 258; length++ {
		try(length, 1+r.Intn(300))
		try(length, 1+r.Intn(3))
	}
	for _, span := range plainDistances() {
		try(3, span[0])
		try(258, span[0]+1<<span[1]-1)
		try(9, span[0]+r.Intn(1<<span[1]))
	}
	wantRefused(t, "\x00\xff\x7f\x00\x80"+ahead[1:]+bytesOf(fixed(literal[257], "11101", number(8191, 13))), 1<<20, api.ErrForm)
}

// own is a block with its own codes: sizes told one by one, by a code of sizes in which all of 0 to 15 have four bits.
type own struct {
	literals, distances []int
	plainSizes          []int  // of the code of sizes, by its symbols; nil: as said
	row                 string // in place of the sizes' bits, if it isn't empty
}

func (o own) head() string {
	sizes := o.plainSizes
	if sizes == nil {
		sizes = make([]int, 19)
		for i := range 16 {
			sizes[i] = 4
		}
	}
	bits := "101" + number(len(o.literals)-257, 5) + number(len(o.distances)-1, 5) + number(15, 4)
	for _, symbol := range []int{16, 17, 18, 0, 8, 7, 9, 6, 10, 5, 11, 4, 12, 3, 13, 2, 14, 1, 15} {
		bits += number(sizes[symbol], 3)
	}
	if o.row != "" {
		return bits + o.row
	}
	say := turned(plainCode(sizes))
	for _, n := range slices.Concat(o.literals, o.distances) {
		bits += say[n]
	}
	return bits
}

// sized is n sizes, noughts but for those of some symbols.
func sized(n int, sizes map[int]int) []int {
	list := make([]int, n)
	for symbol, size := range sizes {
		list[symbol] = size
	}
	return list
}

// abEnd is the sizes of a code of a, b, the length 3 and the end.
func abEnd() []int { return sized(258, map[int]int{'a': 2, 'b': 2, 256: 2, 257: 2}) }

func TestInflateOwn(t *testing.T) {
	const a, b, end, length3 = "00", "01", "10", "11"
	o := own{literals: abEnd(), distances: []int{1, 1}}
	z := bytesOf(o.head() + a + b + length3 + "1" + length3 + "0" + end)
	wantInflated(t, z, 8, "ababaaaa", len(z))
	wantRefused(t, z, 7, api.ErrMany)
	wantRefused(t, z, 1, api.ErrMany)
	for n := range len(z) {
		wantRefused(t, z[:n], 8, api.ErrShort)
	}
	wantInflated(t, z+"more", 9, "ababaaaa", len(z))
	// codes of 15 bits
	sizes := map[int]int{256: 15, 255: 15}
	for i := 1; i < 15; i++ {
		sizes[i] = i
	}
	o = own{literals: sized(257, sizes), distances: []int{0}}
	z = bytesOf(o.head() + "0" + "10" + run("1", 13) + "0" + run("1", 14) + "0" + run("1", 15))
	wantInflated(t, z, 4, "\x01\x02\x0e\xff", len(z))
}

func TestInflateOwnDistances(t *testing.T) {
	const a, end, length3 = "00", "10", "11"
	// none has bits: fine as long as none is wanted; then nothing is read for it
	o := own{literals: abEnd(), distances: []int{0, 0}}
	z := bytesOf(o.head() + a + a + end)
	wantInflated(t, z, 2, "aa", len(z))
	for pad := range 8 {
		bits := o.head() + run(a, 4+pad) + length3
		if len(bits)%8 == 0 {
			wantRefused(t, bytesOf(bits), 99, api.ErrForm)
			wantRefused(t, bytesOf(bits)+"\x00", 99, api.ErrForm)
		}
	}
	// one alone, of one bit: the other bit is refused, as soon as it is there
	for _, at := range []int{0, 1} {
		o = own{literals: abEnd(), distances: sized(2, map[int]int{at: 1})}
		z = bytesOf(o.head() + a + a + length3 + "0" + end)
		wantInflated(t, z, 5, "aaaaa", len(z))
		wantRefused(t, bytesOf(o.head()+a+a+length3+"1"+end), 9, api.ErrForm)
		wantRefused(t, bytesOf(o.head()+a+a+length3+"1"+end), 2, api.ErrForm)
		for pad := range 8 {
			bits := o.head() + run(a, 4+pad) + length3
			if len(bits)%8 == 0 {
				wantRefused(t, bytesOf(bits), 99, api.ErrShort)
				wantRefused(t, bytesOf(bits)+"\x01", 99, api.ErrForm)
			}
		}
	}
	for _, x := range []struct {
		sizes []int
		fine  bool
	}{
		{[]int{0}, true}, {[]int{1}, true}, {[]int{0, 0, 1}, true}, {[]int{1, 1}, true}, {[]int{1, 2, 2}, true},
		{[]int{2}, false}, {[]int{15}, false}, {[]int{2, 2}, false}, {[]int{1, 2}, false}, {[]int{2, 2, 2}, false}, {[]int{2, 2, 2, 2, 2}, false},
		{[]int{1, 1, 1}, false}, {[]int{1, 1, 15}, false}, {[]int{0, 2}, false}, {[]int{1, 0, 15}, false},
	} {
		o = own{literals: abEnd(), distances: x.sizes}
		z = bytesOf(o.head() + end)
		if x.fine {
			wantInflated(t, z, 0, "", len(z))
		} else {
			wantRefused(t, z, 0, api.ErrForm)
		}
	}
	// all thirty
	o = own{literals: abEnd(), distances: sized(30, map[int]int{29: 1, 28: 2, 27: 2})}
	wantRefused(t, bytesOf(o.head()+a+length3+"0"+number(0, 13)), 9, api.ErrForm)
	wantRefused(t, bytesOf(o.head()+a+length3+"0"), 9, api.ErrShort)
}

func TestInflateOwnLiterals(t *testing.T) {
	for _, x := range []struct {
		sizes map[int]int
		fine  bool
	}{
		{map[int]int{'a': 1, 256: 1}, true},
		{map[int]int{'a': 1, 'b': 2, 256: 2}, true},
		{map[int]int{'a': 1, 'b': 1}, false},              // no end
		{map[int]int{'a': 1, 'b': 2, 'c': 2}, false},      // no end
		{map[int]int{256: 1}, false},                      // one alone isn't whole
		{map[int]int{}, false},                            // none
		{map[int]int{'a': 1, 256: 2}, false},              // too few
		{map[int]int{'a': 1, 'b': 1, 256: 1}, false},      // too many
		{map[int]int{'a': 1, 'b': 1, 256: 15}, false},     // just too many
		{map[int]int{'a': 1, 256: 1, 280: 15}, false},     // just too many, in a length
		{map[int]int{0: 3, 1: 3, 2: 3, 256: 15}, false},   // too few
		{map[int]int{'a': 2, 'b': 2, 256: 2, 7: 2}, true}, // whole
	} {
		o := own{literals: sized(286, x.sizes), distances: []int{1, 1}}
		s := o.head() + turned(plainCode(o.literals))[256]
		if x.fine {
			wantInflated(t, bytesOf(s), 0, "", len(bytesOf(s)))
		} else {
			wantRefused(t, bytesOf(s)+"\x00\x00", 0, api.ErrForm)
		}
	}
}

func TestInflateOwnNumbers(t *testing.T) {
	for literals := 257; literals <= 288; literals++ {
		for distances := 1; distances <= 32; distances++ {
			o := own{literals: sized(literals, map[int]int{256: 1, 0: 1}), distances: sized(distances, nil)}
			z := bytesOf(o.head() + "1")
			if literals <= 286 && distances <= 30 {
				wantInflated(t, z, 0, "", len(z))
				continue
			}
			wantRefused(t, z, 0, api.ErrForm)
			wantRefused(t, z[:3], 0, api.ErrForm) // behind three numbers, nothing else is wanted
			wantRefused(t, z[:2], 0, api.ErrShort)
		}
	}
}

func TestInflateCodeOfSizes(t *testing.T) {
	for _, x := range []map[int]int{
		{}, {0: 1}, {0: 1, 1: 2}, {0: 1, 1: 1, 2: 1}, {0: 1, 1: 1, 18: 7}, {18: 7}, {0: 2, 1: 2, 2: 2},
	} {
		o := own{literals: abEnd(), distances: []int{0}, plainSizes: sized(19, x), row: run("0", 64)}
		wantRefused(t, bytesOf(o.head()), 9, api.ErrForm)
		bits := o.head()
		bits = bits[:len(bits)-64]
		wantRefused(t, bytesOf(bits), 9, api.ErrForm) // 74 bits: what is left of the tenth byte is no size
		wantRefused(t, bytesOf(bits)[:9], 9, api.ErrShort)
	}
	// fewer of them than nineteen: the others are 0
	bits := "101" + number(0, 5) + number(0, 5) + number(0, 4) // 16 17 18 0
	bits += number(0, 3) + number(0, 3) + number(1, 3) + number(1, 3)
	noughts := "1" + number(127, 7) + "1" + number(109, 7) // 138 and 120 noughts
	wantRefused(t, bytesOf(bits+noughts), 9, api.ErrForm)  // the end has no bits
}

func TestInflateRowsOfSizes(t *testing.T) {
	// the symbols 0 1 2 16 17 18 of the code of sizes
	sizes := sized(19, map[int]int{0: 3, 1: 3, 2: 3, 16: 3, 17: 2, 18: 2})
	say := turned(plainCode(sizes))
	again := func(n int) string { return say[16] + number(n-3, 2) }
	few := func(n int) string { return say[17] + number(n-3, 3) }
	many := func(n int) string { return say[18] + number(n-11, 7) }
	o := own{literals: make([]int, 257), distances: make([]int, 2), plainSizes: sizes}
	// literals: 97 noughts, 2 2, 155 noughts, 2 2 | distances 1 1
	tries := []struct {
		row string
		no  api.Errno
	}{
		{many(97) + say[2] + say[2] + many(138) + many(18) + say[1] + say[1] + say[1], 0},
		{many(97) + say[2] + say[2] + many(138) + many(18) + say[1] + say[0] + say[0], 0},
		{many(97) + say[2] + say[2] + many(138) + many(18) + say[1] + say[1] + few(3), api.ErrForm}, // too many by two
		{many(97) + say[2] + say[2] + many(138) + many(18) + say[1] + again(3), api.ErrForm},        // too many by one
		{many(97) + say[2] + say[2] + many(138) + many(17) + say[1] + again(3), 0},                  // three more of 1, from the literals into the distances: but not whole
		{many(97) + say[2] + say[2] + many(138) + many(138), api.ErrForm},
		{again(3), api.ErrForm}, // none is ahead
		{again(6), api.ErrForm},
		{few(3) + again(6) + many(88) + say[2] + say[2] + many(138) + few(10) + few(8) + say[1] + say[1] + say[1], 0},
	}
	for i, x := range tries {
		o.row = x.row
		s := bytesOf(o.head() + run("1", 40))
		if no := wantPlain(t, s, 9); x.no != 0 && no != x.no {
			t.Errorf("row %d: %v, not %v", i, no, x.no)
		}
	}
	// bits are wanted ahead of the refusal
	o.row = say[16]
	bits := o.head()
	for len(bits)%8 != 7 && len(bits)%8 != 0 {
		bits = "010" + "0000000" + bits // an empty block ahead moves all
		if len(bits) > 400 {
			break
		}
	}
	wantPlain(t, bytesOf(bits), 9)
	wantPlain(t, bytesOf(bits+"1"), 9)
}

func TestInflateOrderOfRefusals(t *testing.T) {
	// each beginning of what is refused is refused by ErrShort or by the same number
	for _, s := range []string{
		"\x07", "\x01\x01\x00\xff\xff", "\x03\x02\x00",
		bytesOf(own{literals: abEnd(), distances: []int{2}}.head()),
		bytesOf(own{literals: sized(286, map[int]int{256: 2}), distances: []int{0}}.head()),
	} {
		_, _, err := flate.Inflate(s, 9)
		onlyError(t, short(s), err, api.ErrForm)
		for n := range len(s) {
			wantPlain(t, s[:n], 9)
		}
		wantRefused(t, s+"more", 9, api.ErrForm)
	}
}

func TestInflateAgainstPlain(t *testing.T) {
	r := rand.New(rand.NewSource(69))
	seen := map[api.Errno]int{}
	for i := range 3000 {
		s := patched(r, r.Intn(300), 1+r.Intn(12))
		z := []byte(libDeflated(t, s, i%12-2))
		for range r.Intn(4) {
			z[r.Intn(min(len(z), 40))] ^= 1 << r.Intn(8)
		}
		z = z[:len(z)-r.Intn(len(z))*r.Intn(2)]
		most := len(s) + 300
		if r.Intn(3) == 0 {
			most = r.Intn(len(s) + 1)
		}
		seen[wantPlain(t, string(z), most)]++
	}
	for _, no := range []api.Errno{0, api.ErrShort, api.ErrForm, api.ErrMany} {
		if seen[no] < 100 {
			t.Errorf("the tries met %v only %d times", no, seen[no])
		}
	}
}

// chance is a block with codes by chance, and rows of symbols by chance.
func chance(r *rand.Rand) string {
	sizes := func(n int) []int {
		list := make([]int, n)
		for split := []int{0}; len(split) > 0; {
			size := split[0]
			split = split[1:]
			if size < 15 && (size == 0 || r.Intn(5) < 3) {
				split = append(split, size+1, size+1)
				continue
			}
			list[r.Intn(n)] = size
		}
		return list
	}
	o := own{literals: sizes(257 + r.Intn(30)), distances: sizes(1 + r.Intn(30))}
	if r.Intn(2) == 0 {
		o.distances = sized(1+r.Intn(30), map[int]int{0: r.Intn(3)})
	}
	return o.head()
}

func TestInflateChance(t *testing.T) {
	r := rand.New(rand.NewSource(70))
	seen := map[api.Errno]int{}
	for range 3000 {
		bits := run("010"+"0000000", r.Intn(3)) + chance(r)
		rest := bitsOf(random(r, r.Intn(30), 256))
		seen[wantPlain(t, bytesOf(bits+rest), r.Intn(600))]++
		seen[wantPlain(t, random(r, r.Intn(60), 256), r.Intn(600))]++
	}
	for _, no := range []api.Errno{0, api.ErrShort, api.ErrForm, api.ErrMany} {
		if seen[no] < 5 {
			t.Errorf("the tries met %v only %d times", no, seen[no])
		}
	}
}

// P6.3

func TestCrc(t *testing.T) {
	for _, x := range []struct {
		s    string
		want uint32
	}{
		{"", 0}, {"a", 0xe8b7be43}, {"123456789", 0xcbf43926}, {"\x00", 0xd202ef8d}, {"\xff\xff\xff\xff", 0xffffffff},
	} {
		if got := flate.Crc(x.s); got != x.want {
			t.Errorf("Crc(%q) is %x, not %x", x.s, got, x.want)
		}
	}
	for i := range 65536 {
		s := string([]byte{byte(i), byte(i >> 8)})
		if got, want := flate.Crc(s), crc32.ChecksumIEEE([]byte(s)); got != want {
			t.Fatalf("Crc(%x) is %x, not %x", s, got, want)
		}
	}
	r := rand.New(rand.NewSource(71))
	for range 300 {
		s := random(r, r.Intn(5000), 256)
		if got, want := flate.Crc(s), crc32.ChecksumIEEE([]byte(s)); got != want {
			t.Fatalf("Crc(%s) is %x, not %x", short(s), got, want)
		}
	}
}

// P6.4

func TestGzip(t *testing.T) {
	const one = "\x1f\x8b\x08\x00\x00\x00\x00\x00\x00\xff\x4b\x04\x00\x43\xbe\xb7\xe8\x01\x00\x00\x00"
	if got := flate.Gzip("a"); got != one {
		t.Errorf("Gzip(a) is %x", got)
	}
	r := rand.New(rand.NewSource(72))
	texts := []string{"", "a", all(), run("x", 65536), run("y", 0x010203)}
	for range 50 {
		texts = append(texts, patched(r, r.Intn(70000), 1+r.Intn(256)))
	}
	for _, s := range texts {
		z := flate.Gzip(s)
		n, sum := len(s), crc32.ChecksumIEEE([]byte(s))
		tail := []byte{byte(sum), byte(sum >> 8), byte(sum >> 16), byte(sum >> 24), byte(n), byte(n >> 8), byte(n >> 16), byte(n >> 24)}
		if want := one[:10] + flate.Deflate(s) + string(tail); z != want {
			t.Fatalf("Gzip(%s) is %s, not %s", short(s), short(z), short(want))
		}
		g, err := gzip.NewReader(strings.NewReader(z))
		if err != nil {
			t.Fatal(err)
		}
		if b, err := io.ReadAll(g); err != nil || string(b) != s {
			t.Fatalf("another reader takes Gzip(%s) for %s, %v", short(s), short(string(b)), err)
		}
	}
}

// P6.5

// wantOpened fails unless Gunzip answers this text.
func wantOpened(t *testing.T, s string, most int, text string) {
	t.Helper()
	if got, err := flate.Gunzip(s, most); err != nil || got != text {
		t.Fatalf("Gunzip(%s, %d) is %s, %v, not %s", short(s), most, short(got), err, short(text))
	}
}

// wantShut fails unless Gunzip answers this error alone.
func wantShut(t *testing.T, s string, most int, no api.Errno) {
	t.Helper()
	call := fmt.Sprintf("Gunzip(%s, %d)", short(s), most)
	text, err := flate.Gunzip(s, most)
	onlyError(t, call, err, no)
	if text != "" {
		t.Fatalf("%s: beside the error stands %s", call, short(text))
	}
}

func TestGunzipExamples(t *testing.T) {
	one := flate.Gzip("a")
	wantOpened(t, one, 1, "a")
	wantShut(t, one+"x", 1, api.ErrLong)
	wantShut(t, one[:20], 1, api.ErrShort)
	wantShut(t, one[:20]+"\x01", 1, api.ErrSum)
	wantShut(t, one[:2]+"\x09"+one[3:], 1, api.ErrForm)
	wantShut(t, one[:3]+"\x20"+one[4:], 1, api.ErrForm)
	wantShut(t, "", 9, api.ErrShort)
	wantShut(t, "\x1f", 9, api.ErrShort)
	wantShut(t, "a", 9, api.ErrForm)
}

func TestGunzipFirstBytes(t *testing.T) {
	one := flate.Gzip("abc")
	for i, right := range []byte("\x1f\x8b\x08") {
		for b := range 256 {
			bad := one[:i] + string([]byte{byte(b)})
			if byte(b) == right {
				wantShut(t, bad, 9, api.ErrShort)
				continue
			}
			wantShut(t, bad, 9, api.ErrForm) // as it comes: nothing behind it is wanted
			wantShut(t, bad+one[i+1:], 9, api.ErrForm)
			wantShut(t, bad+run("\xff", 20), 9, api.ErrForm)
		}
	}
	for flags := range 256 {
		head := one[:3] + string([]byte{byte(flags)})
		if flags >= 32 {
			wantShut(t, head, 9, api.ErrForm)
			wantShut(t, head+one[4:], 9, api.ErrForm)
		} else {
			wantShut(t, head, 9, api.ErrShort)
		}
	}
	for i := 4; i < 10; i++ {
		for _, b := range []string{"\x00", "\x1f", "\x80", "\xff"} {
			wantOpened(t, one[:i]+b+one[i+1:], 3, "abc")
		}
	}
	for n := range len(one) {
		wantShut(t, one[:n], 9, api.ErrShort)
	}
}

// framed is a frame with these flags, and what they ask for.
func framed(flags byte, extra, name, remark, text string) (head, whole string) {
	head = "\x1f\x8b\x08" + string([]byte{flags}) + "\x01\x02\x03\x04\x05\x06"
	if flags&4 != 0 {
		head += string([]byte{byte(len(extra)), byte(len(extra) >> 8)}) + extra
	}
	if flags&8 != 0 {
		head += name + "\x00"
	}
	if flags&16 != 0 {
		head += remark + "\x00"
	}
	if flags&2 != 0 {
		sum := crc32.ChecksumIEEE([]byte(head))
		head += string([]byte{byte(sum), byte(sum >> 8)})
	}
	return head, head + flate.Gzip(text)[10:]
}

func TestGunzipFlags(t *testing.T) {
	for flags := range 32 {
		for _, x := range []struct{ extra, name, remark string }{
			{"", "", ""}, {"abc\x00d", "a name", "a remark"}, {run("\x00", 300), run("n", 500), "r"}, {run("e", 65535), "\xff", "\x01"},
		} {
			head, s := framed(byte(flags), x.extra, x.name, x.remark, "abcabcabc")
			wantOpened(t, s, 9, "abcabcabc")
			wantShut(t, s, 8, api.ErrMany)
			wantShut(t, s+"\x00", 9, api.ErrLong)
			for n := 0; n < len(s); n += 1 + n/100 {
				wantShut(t, s[:n], 9, api.ErrShort)
			}
			if flags&2 == 0 {
				continue
			}
			// the head's sum: each of its two bytes, and all that is ahead of it but what else is looked at
			for _, i := range []int{4, 9, len(head) - 2, len(head) - 1} {
				b := []byte(s)
				b[i] ^= 0x10
				wantShut(t, string(b), 9, api.ErrSum)
				wantShut(t, string(b[:len(head)]), 9, api.ErrSum)
				wantShut(t, string(b[:len(head)-1]), 9, api.ErrShort)
			}
			b := []byte(s)
			b[3] ^= 1
			wantShut(t, string(b), 9, api.ErrSum)
		}
	}
}

func TestGunzipReadsOthers(t *testing.T) {
	r := rand.New(rand.NewSource(73))
	for i := range 60 {
		s := patched(r, r.Intn(30000), 1+r.Intn(256))
		var b bytes.Buffer
		w, err := gzip.NewWriterLevel(&b, i%12-2)
		if err != nil {
			t.Fatal(err)
		}
		w.Name, w.Comment, w.Extra, w.OS = run("n", i%3), run("c", i%2), []byte(run("x", i%4)), byte(i)
		if _, err = w.Write([]byte(s)); err == nil {
			err = w.Close()
		}
		if err != nil {
			t.Fatal(err)
		}
		wantOpened(t, b.String(), len(s), s)
		wantShut(t, b.String()+b.String(), len(s), api.ErrLong)
	}
}

func TestGunzipTail(t *testing.T) {
	one := flate.Gzip("abcabc")
	n := len(one)
	for i := n - 8; i < n; i++ {
		for bit := range 8 {
			b := []byte(one)
			b[i] ^= 1 << bit
			wantShut(t, string(b), 6, api.ErrSum)
			wantShut(t, string(b)+"x", 6, api.ErrSum)
			for k := n - 8; k < n; k++ {
				wantShut(t, string(b[:k]), 6, api.ErrShort) // all eight are wanted ahead of any look
			}
		}
	}
	wantShut(t, one+one, 6, api.ErrLong)
	wantShut(t, one+"\x00", 6, api.ErrLong)
	// what is inflated is refused ahead of all that
	wantShut(t, one[:10]+"\x07"+one[11:]+"x", 6, api.ErrForm)
	wantShut(t, one[:n-8], 5, api.ErrMany)
	wantShut(t, one, -1, api.ErrMany)
	wantOpened(t, flate.Gzip(""), -1, "")
	wantOpened(t, one, math.MaxInt, "abcabc")
}

func TestGunzipChance(t *testing.T) {
	r := rand.New(rand.NewSource(74))
	for range 3000 {
		_, s := framed(byte(r.Intn(32)), "xx", "n", "r", patched(r, r.Intn(100), 5))
		b := []byte(s)
		b[r.Intn(len(b))] ^= byte(1 + r.Intn(255))
		text, err := flate.Gunzip(string(b), r.Intn(120))
		if err != nil && text != "" {
			t.Fatalf("Gunzip(%x): beside %v stands %q", b, err, text)
		}
	}
}

// P6.6

func TestThereAndBack(t *testing.T) {
	r := rand.New(rand.NewSource(75))
	for i := range 150 {
		n := r.Intn(400)
		if i%10 == 0 {
			n = r.Intn(200000)
		}
		s := patched(r, n, 1+r.Intn(256))
		z := flate.Deflate(s)
		behind := random(r, r.Intn(5), 256)
		for _, most := range []int{n, n + 1, math.MaxInt} {
			wantInflated(t, z+behind, most, s, len(z))
			wantOpened(t, flate.Gzip(s), most, s)
		}
		if n > 0 {
			wantRefused(t, z+behind, n-1, api.ErrMany)
			wantRefused(t, z, r.Intn(n), api.ErrMany)
			wantShut(t, flate.Gzip(s), r.Intn(n), api.ErrMany)
		}
		for cut := 0; cut < len(z); cut += 1 + len(z)/100 {
			wantRefused(t, z[:cut], n, api.ErrShort)
		}
		wantRefused(t, z[:len(z)-1], n, api.ErrShort)
		if most := n + 5*max(1, (n+65534)/65535); len(z) > most {
			t.Fatalf("Deflate of %d bytes has %d", n, len(z))
		}
	}
}

// xored is texts of one length laid one over another.
func xored(texts ...string) string {
	b := make([]byte, len(texts[0]))
	for _, s := range texts {
		for i := range b {
			b[i] ^= s[i]
		}
	}
	return string(b)
}

func TestSumsOfTexts(t *testing.T) {
	r := rand.New(rand.NewSource(76))
	for range 500 {
		n := 1 + r.Intn(200)
		a, b, c := random(r, n, 256), random(r, n, 256), random(r, n, 256)
		if flate.Crc(xored(a, b, c)) != flate.Crc(a)^flate.Crc(b)^flate.Crc(c) {
			t.Fatalf("the sums of %x, %x and %x don't lie over one another", a, b, c)
		}
		// a burst of at most 32 bits, from any bit on
		burst, from := 1|r.Uint32(), r.Intn(8*n)
		other := []byte(a)
		for k := 0; k < 32 && from+k < 8*n; k++ {
			other[(from+k)/8] ^= byte(burst>>k&1) << ((from + k) % 8)
		}
		if flate.Crc(a) == flate.Crc(string(other)) {
			t.Fatalf("%x and %x have one sum", a, other)
		}
	}
}
