package words_test

import (
	"errors"
	"fmt"
	"math/rand"
	"slices"
	"strings"
	"testing"

	"strata/api"
	"strata/words"
)

// alphabet has each byte that does something, and one that doesn't.
const alphabet = "a \\`'\""

// escapes are both, and bytes that count as the first one.
var escapes = []byte{'\\', '`', 0, 'x', ' ', '\'', '"', '$', 255}

// eachText calls f with all texts of at most so many of the bytes.
func eachText(bytes string, most int, f func(s string)) {
	var grow func(s string)
	grow = func(s string) {
		f(s)
		if len(s) == most {
			return
		}
		for i := range len(bytes) {
			grow(s + bytes[i:i+1])
		}
	}
	grow("")
}

// word is a word at its place.
func word(at int, raw string) api.Word { return api.Word{At: at, Raw: raw} }

// list is words one behind the other.
func list(l ...api.Word) []api.Word { return l }

// wantWords fails unless Split answers the words.
func wantWords(t *testing.T, s string, escape byte, want []api.Word) {
	t.Helper()
	got, err := words.Split(s, escape)
	if err != nil || !slices.Equal(got, want) {
		t.Fatalf("Split(%.300q, %q) is %d words, %.300q, %v, not %.300q", s, escape, len(got), fmt.Sprint(got), err, fmt.Sprint(want))
	}
}

// wantOpen fails unless Split tells that the quote at a place has no end.
func wantOpen(t *testing.T, s string, escape byte, at int) {
	t.Helper()
	got, err := words.Split(s, escape)
	call := fmt.Sprintf("Split(%.300q, %q)", s, escape)
	if len(got) != 0 || err == nil {
		t.Fatalf("%s is %d words, %v", call, len(got), err)
	}
	for no := api.ErrArg; no <= api.ErrEmpty; no++ {
		if errors.Is(err, no) != (no == api.ErrQuote) {
			t.Fatalf("%s: the error is %v", call, err)
		}
	}
	var fault api.Fault
	if !errors.As(err, &fault) || fault != (api.Fault{No: api.ErrQuote, At: at}) {
		t.Fatalf("%s: the place is %d:%d, not 0:%d", call, fault.Line, fault.At, at)
	}
}

// agrees fails unless Split answers what the second telling does.
func agrees(t *testing.T, s string, escape byte) {
	t.Helper()
	want, at := plainSplit(s, escape)
	if at >= 0 {
		wantOpen(t, s, escape, at)
		return
	}
	wantWords(t, s, escape, want)
}

func TestExamples(t *testing.T) {
	wantWords(t, "a  b", '\\', list(word(0, "a"), word(3, "b")))
	wantWords(t, " \t\r ", '\\', nil)
	wantWords(t, "", '\\', nil)
	wantWords(t, `a'b c'd "e f"`, '\\', list(word(0, `a'b c'd`), word(8, `"e f"`)))
	wantWords(t, `a\ b c`, '\\', list(word(0, `a\ b`), word(5, "c")))
	wantWords(t, `a\ b c`, '`', list(word(0, `a\`), word(3, "b"), word(5, "c")))
	wantWords(t, `"a\"b" 'c\' d`, '\\', list(word(0, `"a\"b"`), word(7, `'c\'`), word(12, "d")))
	wantWords(t, `\'a b`, '\\', list(word(0, `\'a`), word(4, "b")))
	wantWords(t, `a\`, '\\', list(word(0, `a\`)))
	wantOpen(t, `a 'b`, '\\', 2)
	wantOpen(t, `"a\"`, '\\', 0)
	wantOpen(t, `'" x`, '\\', 0)
	for _, x := range [][2]string{
		{`a/b.c`, `a/b.c`}, {``, `""`}, {`a b`, `"a b"`}, {`a"$\`, `"a\"\$\\"`},
	} {
		if got := words.Quote(x[0], '\\'); got != x[1] {
			t.Errorf("Quote(%q) is %q, not %q", x[0], got, x[1])
		}
	}
}

// P13.1

func TestSplitBlanks(t *testing.T) {
	for b := range 256 {
		s := "a" + string([]byte{byte(b)}) + "c"
		switch b {
		case ' ', '\t', '\r':
			wantWords(t, s, '\\', list(word(0, "a"), word(2, "c")))
			wantWords(t, s[1:2]+s, '\\', list(word(1, "a"), word(3, "c")))
			wantWords(t, s+s[1:2], '\\', list(word(0, "a"), word(2, "c")))
			wantWords(t, "'"+s+"'", '\\', list(word(0, "'"+s+"'")))
			wantWords(t, `"`+s+`"`, '\\', list(word(0, `"`+s+`"`)))
			wantWords(t, `\`+s[1:], '\\', list(word(0, `\`+s[1:])))
		case '\'', '"':
			wantOpen(t, s, '\\', 1)
		default:
			wantWords(t, s, '\\', list(word(0, s)))
			wantWords(t, s+" \n", '`', list(word(0, s), word(4, "\n")))
		}
	}
}

func TestSplitEscapes(t *testing.T) {
	for escape := range 256 {
		e := byte(escape)
		if e == '`' {
			wantWords(t, "a` b\\ c", e, list(word(0, "a` b\\"), word(6, "c")))
			continue
		}
		wantWords(t, "a` b\\ c", e, list(word(0, "a`"), word(3, "b\\ c")))
	}
	for _, x := range []struct {
		s    string
		want []api.Word
	}{
		{`\`, list(word(0, `\`))},
		{`a \`, list(word(0, `a`), word(2, `\`))},
		{`\ `, list(word(0, `\ `))},
		{`\ \ a `, list(word(0, `\ \ a`))},
		{`\\ a`, list(word(0, `\\`), word(3, `a`))},
		{`\\\ a`, list(word(0, `\\\ a`))},
		{`\"a b`, list(word(0, `\"a`), word(4, `b`))},
		{`'\' a`, list(word(0, `'\'`), word(4, `a`))},
		{`"\\" a`, list(word(0, `"\\"`), word(5, `a`))},
		{`"\ ' a"b'"c'd`, list(word(0, `"\ ' a"b'"c'd`))},
		{`'a "'" 'b"`, list(word(0, `'a "'" 'b"`))},
	} {
		wantWords(t, x.s, '\\', x.want)
	}
}

func TestSplitOpenQuotes(t *testing.T) {
	for _, x := range []struct {
		s  string
		at int
	}{
		{`'`, 0}, {`"`, 0}, {`"\`, 0}, {`"\"`, 0}, {`"\\\"`, 0}, {`a''"`, 3}, {`''"" 'a"`, 5}, {`"'" '"`, 4},
		{`\''`, 2}, {`\""a b`, 2}, {`a b\\"c d`, 5}, {`"a" b'c' d"e\" f`, 10}, {"'\n", 0}, {`'a\'b'`, 5},
	} {
		wantOpen(t, x.s, '\\', x.at)
	}
	wantOpen(t, "a \"`\"", '`', 2)
	wantWords(t, "a \"`\"", '\\', list(word(0, "a"), word(2, "\"`\"")))
}

func TestSplitShortTexts(t *testing.T) {
	count := 0
	eachText(alphabet, 6, func(s string) {
		count++
		for _, escape := range escapes[:3] {
			agrees(t, s, escape)
		}
	})
	if want := 1 + 6 + 36 + 216 + 1296 + 7776 + 46656; count != want {
		t.Fatalf("%d texts, not %d", count, want)
	}
}

func TestSplitRandomTexts(t *testing.T) {
	rnd := rand.New(rand.NewSource(13))
	const often = "ab \t\r\n\\\\`''\"\"$\x00\x80\xff\xc3\xa9"
	for range 20000 {
		b := make([]byte, rnd.Intn(40))
		for i := range b {
			b[i] = often[rnd.Intn(len(often))]
			if rnd.Intn(8) == 0 {
				b[i] = byte(rnd.Intn(256))
			}
		}
		agrees(t, string(b), escapes[rnd.Intn(len(escapes))])
	}
}

func TestSplitLongTexts(t *testing.T) {
	const n = 1 << 18
	got, err := words.Split(strings.Repeat("a ", n), '\\')
	if err != nil || len(got) != n || got[n-1] != word(2*n-2, "a") {
		t.Fatalf("%d words, %v", len(got), err)
	}
	long := strings.Repeat(`' '" "\ `, n)
	wantWords(t, long, '\\', list(word(0, long)))
	wantOpen(t, long+`'`+strings.Repeat(`"a `, n), '\\', len(long))
}

// P13.2

func TestQuoteBytes(t *testing.T) {
	const plain = "ABCDEFGHIJKLMNOPQRSTUVWXYZabcdefghijklmnopqrstuvwxyz0123456789_-./:,+=@%"
	for b := range 256 {
		s := string([]byte{byte(b)})
		for _, x := range []struct {
			escape byte
			mark   string
		}{{'\\', `\`}, {'`', "`"}, {0, `\`}, {'"', `\`}, {'$', `\`}} {
			want := `"` + s + `"`
			if strings.Contains(plain, s) {
				want = s
			} else if s == `"` || s == "$" || s == x.mark {
				want = `"` + x.mark + s + `"`
			}
			if got := words.Quote(s, x.escape); got != want {
				t.Fatalf("Quote(%q, %q) is %q, not %q", s, x.escape, got, want)
			}
		}
	}
	for _, escape := range escapes {
		if got := words.Quote(plain, escape); got != plain {
			t.Fatalf("Quote(%q, %q) is %q", plain, escape, got)
		}
	}
}

func TestQuoteTexts(t *testing.T) {
	eachText("a \\`'\"$\n", 5, func(s string) {
		for _, escape := range escapes[:3] {
			if got, want := words.Quote(s, escape), plainQuote(s, escape); got != want {
				t.Fatalf("Quote(%q, %q) is %q, not %q", s, escape, got, want)
			}
		}
	})
	if got := words.Quote("\xff\x00\xc3\xa9", '\\'); got != "\"\xff\x00\xc3\xa9\"" {
		t.Fatalf("%q", got)
	}
}

// P13.3

func TestSplitLeavesBlanksAlone(t *testing.T) {
	eachText(alphabet+"\t\r", 5, func(s string) {
		for _, escape := range escapes[:2] {
			l, err := words.Split(s, escape)
			if err != nil {
				continue
			}
			end := 0
			for i, w := range l {
				if w.Raw == "" || w.At < end || !strings.HasPrefix(s[w.At:], w.Raw) || i > 0 && w.At == end {
					t.Fatalf("Split(%q) has %q at %d", s, w.Raw, w.At)
				}
				wantBlanks(t, s, s[end:w.At])
				end = w.At + len(w.Raw)
			}
			wantBlanks(t, s, s[end:])
		}
	})
}

func wantBlanks(t *testing.T, s, row string) {
	t.Helper()
	if strings.Trim(row, " \t\r") != "" {
		t.Fatalf("Split(%q) leaves %q out", s, row)
	}
}

// P13.4

func TestSplitOfTwo(t *testing.T) {
	var texts []string
	eachText(alphabet, 3, func(s string) { texts = append(texts, s) })
	met := 0
	for _, escape := range escapes[:2] {
		for _, a := range texts {
			first, err := words.Split(a, escape)
			if err != nil || strings.HasSuffix(a, string(escape)) {
				continue
			}
			for _, b := range texts {
				second, err := words.Split(b, escape)
				if err != nil {
					continue
				}
				met++
				both := slices.Clone(first)
				for _, w := range second {
					both = append(both, word(len(a)+1+w.At, w.Raw))
				}
				for _, blank := range []string{" ", "\t", "\r"} {
					wantWords(t, a+blank+b, escape, both)
				}
			}
		}
	}
	if met < 10000 {
		t.Fatalf("only %d pairs", met)
	}
}

// P13.5

func TestQuoteIsOneWord(t *testing.T) {
	eachText("a \t\\`'\"$\n", 4, func(s string) {
		for _, escape := range escapes {
			q := words.Quote(s, escape)
			wantWords(t, q, escape, list(word(0, q)))
		}
	})
	rnd := rand.New(rand.NewSource(5))
	for range 5000 {
		b := make([]byte, rnd.Intn(30))
		for i := range b {
			b[i] = byte(rnd.Intn(256))
		}
		escape := byte(rnd.Intn(256))
		q := words.Quote(string(b), escape)
		wantWords(t, q, escape, list(word(0, q)))
	}
}

// R4

func TestAnswersAreNewMemory(t *testing.T) {
	const s = `a "b c" d e f`
	one, err := words.Split(s, '\\')
	if err != nil {
		t.Fatal(err)
	}
	for _, w := range one[len(one):cap(one)] {
		if w != (api.Word{}) {
			t.Fatalf("%q stands in the spare room", w.Raw)
		}
	}
	for i := range one[:cap(one)] {
		one[:cap(one)][i] = word(99, "spoiled")
	}
	agrees(t, s, '\\')
}
