package digest_test

import (
	"errors"
	"fmt"
	"slices"
	"strconv"
	"testing"

	"strata/api"
	"strata/digest"
)

func wantCut(t *testing.T, text string, want ...string) {
	t.Helper()
	if got, err := digest.Cut(text); err != nil || !slices.Equal(got, want) {
		t.Errorf("Cut(%.300q) is %.300q, %v, not %.300q", text, got, err, want)
	}
}

func wantNoPieces(t *testing.T, text string, at int) {
	t.Helper()
	call := fmt.Sprintf("Cut(%.300q)", text)
	got, err := digest.Cut(text)
	onlyError(t, call, err, api.ErrForm)
	var fault api.Fault
	if got != nil || !errors.As(err, &fault) || fault != (api.Fault{No: api.ErrForm, At: at}) {
		t.Errorf("%s is %.300q with a fault at %d:%d, not one at 0:%d", call, got, fault.Line, fault.At, at)
	}
}

// textsOf are all texts of at most n bytes of the alphabet.
func textsOf(alphabet string, n int) []string {
	all := []string{""}
	longest := all
	for range n {
		var next []string
		for _, s := range longest {
			for i := range len(alphabet) {
				next = append(next, s+alphabet[i:i+1])
			}
		}
		all = append(all, next...)
		longest = next
	}
	return all
}

// someLists are lists of up to three texts, such as look like pieces among them.
func someLists() [][]string {
	texts := []string{"", "a", "0", ":", "0:", "1:a", "2:ab", "3:x", "\x00\xff", run("x", 9), run("x", 10), run(":", 99), run("0", 100), mixed(1001)}
	lists := [][]string{nil}
	for _, a := range texts {
		lists = append(lists, []string{a})
		for _, b := range texts {
			lists = append(lists, []string{a, b}, []string{a, b, a}, []string{b, a, a})
		}
	}
	return lists
}

// P3.4

func TestPiecesSamples(t *testing.T) {
	for _, x := range []struct {
		want  string
		texts []string
	}{
		{"", nil},
		{"", []string{}},
		{"0:", []string{""}},
		{"0:0:", []string{"", ""}},
		{"2:ab0:3:3:x", []string{"ab", "", "3:x"}},
		{"3:\u00e4a", []string{"\u00e4a"}},
		{"2:\x00\xff", []string{"\x00\xff"}},
		{"9:" + run("a", 9) + "10:" + run("b", 10), []string{run("a", 9), run("b", 10)}},
		{"1:b1:a1:b", []string{"b", "a", "b"}},
		{"1048576:" + run("a", 1<<20), []string{run("a", 1<<20)}},
	} {
		if got := digest.Pieces(x.texts...); got != x.want {
			t.Errorf("Pieces(%.300q) is %.300q", x.texts, got)
		}
	}
}

func TestPiecesLeaveTheirListAlone(t *testing.T) {
	given := append(make([]string, 0, 5), "a", "b")
	digest.Pieces(given...)
	if !slices.Equal(given[:5], []string{"a", "b", "", "", ""}) {
		t.Errorf("Pieces left %q", given[:5])
	}
}

// P3.5

func TestCutSamples(t *testing.T) {
	wantCut(t, "")
	wantCut(t, "0:", "")
	wantCut(t, "0:0:0:", "", "", "")
	wantCut(t, "2:ab0:3:3:x", "ab", "", "3:x")
	wantCut(t, "1:01:1", "0", "1")
	wantCut(t, "10:0123456789", "0123456789")
	wantCut(t, "3:\x00:\xff", "\x00:\xff")
	wantCut(t, "100:"+run("0", 100)+"1:9", run("0", 100), "9")
	wantCut(t, "1000000:"+run("1", 1000000), run("1", 1000000))
}

func TestCutRefuses(t *testing.T) {
	for _, x := range []struct {
		text string
		at   int
	}{
		{"2:ab1:", 4}, {"2:ab01:c", 4}, {"x", 0}, {"2:abx", 4}, {"2:a", 0}, {"1:a:", 3},
		{":", 0}, {":a", 0}, {"0", 0}, {"1", 0}, {"1:", 0}, {"00:", 0}, {"01:a", 0}, {"0:0", 2}, {"0:00:", 2}, {"0:1", 2}, {"0: ", 2},
		{"-0:", 0}, {"+0:", 0}, {"+1:a", 0}, {"-1:a", 0}, {" 1:a", 0}, {"1 :a", 0}, {"1;a", 0}, {"0x1:a", 0}, {"1_0:0123456789", 0}, {"a:", 0}, {"1:a\n", 3}, {"1:a\n1:b", 3},
		{"\u0661:a", 0}, {"\x00:", 0}, {"/:a", 0}, {"::", 0}, {"1::x", 3}, {"3:ab", 0}, {"3:ab1:c1:d2", 5}, {"2:ab1:c1:d2", 10},
		{"9999999999:", 0}, {"9999999999:" + run("a", 99), 0}, {"1:a9999999999:a", 3},
		{"10000000000:", 0}, {"99999999999:", 0}, {"00000000001:a", 0}, {"0000000001:a", 0}, {"12345678901", 0}, {"1234567890", 0}, {"0:1234567890", 2},
		{"9223372036854775807:", 0}, {"9223372036854775808:", 0}, {"18446744073709551616:", 0}, {"18446744073709551617:a", 0}, {"340282366920938463463374607431768211457:a", 0},
		{run("9", 100000), 0}, {run("9", 100000) + ":", 0}, {run("0", 100000), 0}, {run("0:", 100000) + "0", 200000}, {run("1:a", 100000) + "2:a", 300000},
	} {
		wantNoPieces(t, x.text, x.at)
	}
}

// piecesFrom is how many bytes the pieces have that begin at a text's beginning, one behind the other, and their texts: each length is tried.
func piecesFrom(s string) (int, []string) {
	at := 0
	var texts []string
again:
	for {
		for n := range len(s) - at {
			head := strconv.Itoa(n) + ":"
			end := at + len(head) + n
			if end <= len(s) && s[at:at+len(head)] == head {
				texts = append(texts, s[at+len(head):end])
				at = end
				continue again
			}
		}
		return at, texts
	}
}

func TestCutOfAllShortTexts(t *testing.T) {
	for _, text := range textsOf("012:a", 7) {
		at, texts := piecesFrom(text)
		if at == len(text) {
			wantCut(t, text, texts...)
		} else {
			wantNoPieces(t, text, at)
		}
	}
}

func TestCutAnswersNewMemory(t *testing.T) {
	text := "1:a1:b1:c"
	one, _ := digest.Cut(text)
	two, _ := digest.Cut(text)
	clear(one[:cap(one)])
	if !slices.Equal(two, []string{"a", "b", "c"}) {
		t.Errorf("the second answer is %q", two)
	}
	wantCut(t, text, "a", "b", "c")
}

// P3.7

func TestCutFindsWhatPiecesLaid(t *testing.T) {
	for _, list := range someLists() {
		wantCut(t, digest.Pieces(list...), list...)
	}
	var many []string
	for i := range 20000 {
		many = append(many, run("x", i%23))
	}
	wantCut(t, digest.Pieces(many...), many...)
}

func TestPiecesTellWhatCutTook(t *testing.T) {
	taken := 0
	for _, text := range textsOf("012:a", 7) {
		list, err := digest.Cut(text)
		if err != nil {
			continue
		}
		taken++
		if got := digest.Pieces(list...); got != text {
			t.Errorf("Pieces of Cut(%q) is %q", text, got)
		}
	}
	if taken < 20 {
		t.Errorf("Cut took %d texts", taken)
	}
}

func TestPiecesOfTwoListsAreTheTwos(t *testing.T) {
	lists := someLists()
	for i, one := range lists {
		two := lists[(i*37+11)%len(lists)]
		if digest.Pieces(slices.Concat(one, two)...) != digest.Pieces(one...)+digest.Pieces(two...) {
			t.Errorf("Pieces of %.100q and %.100q are not the two's", one, two)
		}
	}
}
