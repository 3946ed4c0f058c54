package lex_test

import (
	"errors"
	"fmt"
	"math"
	"math/rand"
	"slices"
	"strings"
	"testing"

	"strata/api"
	"strata/lex"
)

// mark is a Mark.
func mark(at, line, col int) api.Mark { return api.Mark{At: at, Line: line, Col: col} }

// line is a line without documents.
func line(at int, text string, marks ...api.Mark) api.Line {
	return api.Line{Line: at, Text: text, Marks: marks}
}

// with is a line with documents.
func with(l api.Line, docs ...api.Doc) api.Line {
	l.Docs = docs
	return l
}

// list is lines one behind the other.
func list(l ...api.Line) []api.Line { return l }

func sameLine(a, b api.Line) bool {
	return a.Line == b.Line && a.Text == b.Text && slices.Equal(a.Marks, b.Marks) && slices.Equal(a.Docs, b.Docs)
}

// wantLines fails unless Lines answers the escape and the lines.
func wantLines(t *testing.T, s string, escape byte, want []api.Line) {
	t.Helper()
	c, got, err := lex.Lines(s)
	if err != nil || c != escape || !slices.EqualFunc(got, want, sameLine) {
		t.Fatalf("Lines(%.300q) is %q, %d lines, %.400q, %v, not %q, %.400q", s, c, len(got), fmt.Sprint(got), err, escape, fmt.Sprint(want))
	}
}

// wantFault fails unless Lines answers the error at the place, and nothing else.
func wantFault(t *testing.T, s string, want api.Fault) {
	t.Helper()
	c, got, err := lex.Lines(s)
	if c != 0 || len(got) != 0 || err == nil {
		t.Fatalf("Lines(%.300q) is %q, %d lines, %v, not %v", s, c, len(got), err, want)
	}
	for no := api.ErrArg; no <= api.ErrEmpty; no++ {
		if errors.Is(err, no) != (no == want.No) {
			t.Fatalf("Lines(%.300q): the error is %v, not %v", s, err, want.No)
		}
	}
	var fault api.Fault
	if !errors.As(err, &fault) || fault != want {
		t.Fatalf("Lines(%.300q): the fault is %v at %d:%d, not %v at %d:%d", s, fault.No, fault.Line, fault.At, want.No, want.Line, want.At)
	}
}

// fault is an error at a place.
func fault(no api.Errno, line, at int) api.Fault { return api.Fault{No: no, Line: line, At: at} }

// agrees fails unless Lines answers what the second telling does, and the answer is as P14.3 says.
func agrees(t *testing.T, s string) {
	t.Helper()
	want := plainLines(s)
	if want.fault.No != api.OK {
		wantFault(t, s, want.fault)
		return
	}
	wantLines(t, s, want.escape, want.lines)
	stands(t, s, want.lines)
}

// stands fails unless each byte of the lines is the byte of the file at its place, and lines and marks rise.
func stands(t *testing.T, s string, lines []api.Line) {
	t.Helper()
	file := strings.Split(s, "\n")
	above := 0
	for _, l := range lines {
		if l.Line <= above {
			t.Fatalf("%.300q: the line %d stands behind %d", s, l.Line, above)
		}
		above = l.Line
		for at := range len(l.Text) {
			row, col := lex.Place(l, at)
			if file[row-1][col-1] != l.Text[at] {
				t.Fatalf("%.300q: byte %d of %.300q is not at %d:%d", s, at, l.Text, row, col)
			}
		}
		for i, m := range l.Marks {
			if i > 0 && (m.Line <= l.Marks[i-1].Line || m.At <= l.Marks[i-1].At) {
				t.Fatalf("%.300q: the marks %v don't rise", s, l.Marks)
			}
		}
	}
}

// eachText calls f with all texts of at most so many of the pieces.
func eachText(pieces []string, most int, f func(s string)) {
	f("")
	if most == 0 {
		return
	}
	for _, p := range pieces {
		eachText(pieces, most-1, func(s string) { f(p + s) })
	}
}

// row is lines, each with the byte 0a behind it.
func row(lines ...string) string {
	return strings.Join(lines, "\n") + "\n"
}

func TestExamples(t *testing.T) {
	wantLines(t, "", '\\', nil)
	wantLines(t, row("# a", "", "  "), '\\', nil)
	wantLines(t, row("  FROM a", "RUN \\", "# b", "  c"), '\\', list(
		line(1, "FROM a", mark(0, 1, 3)), line(2, "RUN   c", mark(0, 2, 1), mark(4, 4, 1))))
	wantLines(t, row("# Escape = `", "A \\", "B`", "C"), '`', list(
		line(2, "A \\", mark(0, 2, 1)), line(3, "BC", mark(0, 3, 1), mark(1, 4, 1))))
	wantFault(t, row("#escape=x"), fault(api.ErrForm, 1, 8))
	wantFault(t, row("# escape=\\", "# escape=\\"), fault(api.ErrTwice, 2, 1))
	wantLines(t, row("", "# escape=x"), '\\', nil)
	wantLines(t, row("A \\", ""), '\\', list(line(1, "A ", mark(0, 1, 1))))
	wantLines(t, row("\\", "\\"), '\\', nil)
	wantLines(t, row("\\", "A"), '\\', list(line(1, "A", mark(0, 2, 1))))
	wantLines(t, row("copy <<E <<-'F' d", "x \\", "E", "\t\ty", "\tF", "B"), '\\', list(
		with(line(1, "copy <<E <<-'F' d", mark(0, 1, 1)), api.Doc{Name: "E", Line: 2, Text: "x \\\n"}, api.Doc{Name: "F", Raw: true, Line: 4, Text: "y\n"}),
		line(6, "B", mark(0, 6, 1))))
	wantFault(t, row("COPY <<E d"), fault(api.ErrDoc, 1, 6))
	wantFault(t, row("COPY a <<E-F"), fault(api.ErrDoc, 1, 8))
	wantFault(t, row("COPY <<\"E d"), fault(api.ErrQuote, 1, 8))
	wantLines(t, row("ADD <<E d"), '\\', list(line(1, "ADD <<E d", mark(0, 1, 1))))
	wantFault(t, row("A", "\xff"), fault(api.ErrText, 2, 1))
}

// P14.1: the file's lines, and the bytes 0d at their ends.

func TestLinesEndWithOrWithout(t *testing.T) {
	wantLines(t, "A", '\\', list(line(1, "A", mark(0, 1, 1))))
	wantLines(t, "A\n\n\nB", '\\', list(line(1, "A", mark(0, 1, 1)), line(4, "B", mark(0, 4, 1))))
	wantLines(t, "A\r\nB\r\r\n", '\\', list(line(1, "A", mark(0, 1, 1)), line(2, "B", mark(0, 2, 1))))
	wantLines(t, "A\rB \r\n", '\\', list(line(1, "A\rB ", mark(0, 1, 1))))
	wantLines(t, "A\r \r\n", '\\', list(line(1, "A\r ", mark(0, 1, 1))))
	wantLines(t, "\r", '\\', nil)
	wantLines(t, " \t\r A \t", '\\', list(line(1, "A \t", mark(0, 1, 5))))
	wantLines(t, "\v\n", '\\', list(line(1, "\v", mark(0, 1, 1))))
	wantLines(t, "\u00a0A\n", '\\', list(line(1, "\u00a0A", mark(0, 1, 1))))
	wantLines(t, "\x00\n", '\\', list(line(1, "\x00", mark(0, 1, 1))))
}

// P14.1: remarks and lines that go on.

func TestLinesGoOn(t *testing.T) {
	wantLines(t, "A\\ \t\r\r\nB", '\\', list(line(1, "AB", mark(0, 1, 1), mark(1, 2, 1))))
	wantLines(t, "A\\\\\nB", '\\', list(line(1, "A\\B", mark(0, 1, 1), mark(2, 2, 1))))
	wantLines(t, "A\\\n \\\n\\\n B\\\nC\nD", '\\', list(
		line(1, "A  BC", mark(0, 1, 1), mark(1, 2, 1), mark(2, 4, 1), mark(4, 5, 1)), line(6, "D", mark(0, 6, 1))))
	wantLines(t, "A\\\n  # \\\n\t\n\nB # c\nD", '\\', list(
		line(1, "AB # c", mark(0, 1, 1), mark(1, 5, 1)), line(6, "D", mark(0, 6, 1))))
	wantLines(t, "A\\\n#\n\n#", '\\', list(line(1, "A", mark(0, 1, 1))))
	wantLines(t, "# A \\\nB\n", '\\', list(line(2, "B", mark(0, 2, 1))))
	wantLines(t, "A\\ # b\nC", '\\', list(line(1, "A\\ # b", mark(0, 1, 1)), line(2, "C", mark(0, 2, 1))))
	wantLines(t, "A`\nC", '\\', list(line(1, "A`", mark(0, 1, 1)), line(2, "C", mark(0, 2, 1))))
	wantLines(t, "  \\\n  A", '\\', list(line(1, "  A", mark(0, 2, 1))))
	wantLines(t, "\\\n \\\n\t\\\n\nA\n", '\\', list(line(1, " \tA", mark(0, 2, 1), mark(1, 3, 1), mark(2, 5, 1))))
	wantLines(t, "\\\n \\\n\t\\\n", '\\', nil)
	wantLines(t, "A\\", '\\', list(line(1, "A", mark(0, 1, 1))))
}

// P14.1: directives.

func TestDirectives(t *testing.T) {
	for _, s := range []string{"#escape=`", "# escape=`", " \t#\t ESCAPE \r= ` \r", "#EsCaPe\t=\t`\t"} {
		wantLines(t, s, '`', nil)
		wantLines(t, s+"\nA\\\nB`\nC\n", '`', list(line(2, "A\\", mark(0, 2, 1)), line(3, "BC", mark(0, 3, 1), mark(1, 4, 1))))
	}
	wantLines(t, "#escape=\\\nA\\\nB\n", '\\', list(line(2, "AB", mark(0, 2, 1), mark(1, 3, 1))))
	for _, s := range []string{"##escape=`", "# escap=`", "# escapes=`", "# escape`", "# es cape=`", "# escape:=`", "#", "# ", "#escape", "# e\u017fcape=`", "# xescape=`", "\u00a0# escape=`"} {
		c, _, err := lex.Lines(s)
		if c != '\\' || err != nil {
			t.Errorf("Lines(%q) is %q, %v", s, c, err)
		}
	}
	for _, s := range []string{"\n# escape=`", "# a\n# escape=`", "\n# escape=x", "# a\n# escape=``", "# escape=\\\n\n# escape=`", "# escape=\\\n# a\n# escape=x"} {
		wantLines(t, s, '\\', nil)
	}
	wantLines(t, "# escape=`\n\n# escape=x\nA\n# escape=x\n", '`', list(line(4, "A", mark(0, 4, 1))))
}

func TestDirectivesAreRefused(t *testing.T) {
	for _, value := range []string{"", " ", "x", "``", "\\\\", "\\`", "` `", "`x", "\"`\"", "=`", "'"} {
		wantFault(t, "# escape="+value, fault(api.ErrForm, 1, 9))
		wantFault(t, " #\tescape \t="+value+"\nA\n# escape=`\n", fault(api.ErrForm, 1, 12))
		wantFault(t, "# escape="+value+"\n# escape=`\n", fault(api.ErrForm, 1, 9))
		wantFault(t, "# escape=`\n\t# escape="+value+"\n", fault(api.ErrTwice, 2, 2))
	}
	wantFault(t, "# escape=`\n# escape=`\n# escape=`\n", fault(api.ErrTwice, 2, 1))
	wantFault(t, "# escape=x\nCOPY \"\n", fault(api.ErrForm, 1, 9))
}

// P14.1: documents.

func TestDocuments(t *testing.T) {
	doc := func(name string, raw bool, at int, text string) api.Doc {
		return api.Doc{Name: name, Raw: raw, Line: at, Text: text}
	}
	copied := func(head string, docs ...api.Doc) []api.Line {
		return list(with(line(1, head, mark(0, 1, 1)), docs...))
	}
	wantLines(t, "COPY <<E d\nE", '\\', copied("COPY <<E d", doc("E", false, 2, "")))
	wantLines(t, "COPY <<E d\n# r\n\n  x \t\r\r\nE \n E\n\tE\ne\nEE\nE\r\n", '\\', copied("COPY <<E d", doc("E", false, 2, "# r\n\n  x \t\nE \n E\n\tE\ne\nEE\n")))
	wantLines(t, "COPY <<-E d\n\t# r\n\t\n \tx\n\ty\tz\n\t \tE\n\t\tE\r\n", '\\', copied("COPY <<-E d", doc("E", false, 2, "# r\n\n \tx\ny\tz\n \tE\n")))
	wantLines(t, "COPY <<-E d\nE\n", '\\', copied("COPY <<-E d", doc("E", false, 2, "")))
	wantLines(t, "CoPy\td <<_9z\na\r\rb\n_9z\n", '\\', copied("CoPy\td <<_9z", doc("_9z", false, 2, "a\r\rb\n")))
	wantLines(t, "COPY <<\"E\" <<-'E' <<-\"F\" d\nx\nE\n\ty\n\tE\n\tF\n", '\\', copied("COPY <<\"E\" <<-'E' <<-\"F\" d",
		doc("E", true, 2, "x\n"), doc("E", true, 4, "y\n"), doc("F", true, 6, "")))
	wantLines(t, "COPY <<E <<E\nE\nE\n", '\\', copied("COPY <<E <<E", doc("E", false, 2, ""), doc("E", false, 3, "")))
	long := strings.Repeat("x", api.MaxName)
	wantLines(t, "COPY <<"+long+" d\n"+long+"\n", '\\', copied("COPY <<"+long+" d", doc(long, false, 2, "")))
	wantFault(t, "COPY <<x"+long+" d\nx"+long+"\n", fault(api.ErrDoc, 1, 6))
	wantLines(t, "COPY a\\\n <\\\n\n<E \\\n# r\nd\nx\\\nE\nB", '\\', list(
		with(line(1, "COPY a <<E d", mark(0, 1, 1), mark(6, 2, 1), mark(8, 4, 1), mark(11, 6, 1)), doc("E", false, 7, "x\\\n")), line(9, "B", mark(0, 9, 1))))
	wantLines(t, "\\\n\tCO\\\nPY <<E\nE\n", '\\', list(with(line(1, "\tCOPY <<E", mark(0, 2, 1), mark(3, 3, 1)), doc("E", false, 4, ""))))
	wantLines(t, "COPY <<E d\nCOPY <<E d\nE\nCOPY <<E d\n# escape=x\nE\n", '\\', list(
		with(line(1, "COPY <<E d", mark(0, 1, 1)), doc("E", false, 2, "COPY <<E d\n")),
		with(line(4, "COPY <<E d", mark(0, 4, 1)), doc("E", false, 5, "# escape=x\n"))))
}

func TestWhatOpensNoDocument(t *testing.T) {
	for _, s := range []string{"ADD <<E d", "COPY", "COPY<<E d", "COPYX <<E d", "COP <<E d", "<<E COPY", "\"COPY\" <<E d", "COPY x<<E d", "COPY --from=<<E d", "COPY \"<<E\" d", "COPY '<<E' d", "COPY \\<<E d", "COPY \\ <<E d", "COPY < <E d", "COPY <\\<E d", "COPY\v<<E d", "\u00a0COPY <<E d", "ADD \"x"} {
		wantLines(t, s, '\\', list(line(1, s, mark(0, 1, 1))))
	}
	wantLines(t, "# escape=`\nCOPY \\ x` <<E d\n", '`', list(line(2, "COPY \\ x` <<E d", mark(0, 2, 1))))
}

func TestDocumentsAreRefused(t *testing.T) {
	for _, word := range []string{"<<", "<<-", "<<-\"\"", "<<''", "<<--E", "<<<E", "<<E-", "<<-E.F", "<<\"E\"x", "<<x\"E\"", "<<'E''E'", "<<\"E F\"", "<<\"'E'\"", "<<\\E", "<<\u00e9", "<<E\\", "<<'-E'", "<<E<<F", "<<\"E'F'\"", "<<\\\"E\\\""} {
		wantFault(t, "COPY "+word+" d\nE\nF\n-E\n\n", fault(api.ErrDoc, 1, 6))
		wantFault(t, " COPY <<E "+word+" d\nE\nF\n-E\n\n", fault(api.ErrDoc, 1, 11))
		wantFault(t, "A\n COPY a\\\n  "+word+" d\nE\n", fault(api.ErrDoc, 3, 3))
	}
	wantFault(t, "COPY <<E <<- d\nF\n", fault(api.ErrDoc, 1, 6))
	wantFault(t, "COPY <<- <<E d\nF\n", fault(api.ErrDoc, 1, 6))
	wantFault(t, "COPY <<E <<F d\nF\nE\n", fault(api.ErrDoc, 1, 10))
	wantFault(t, "COPY <<E <<E d\nE\n", fault(api.ErrDoc, 1, 10))
	wantFault(t, "COPY <<E d\n\tE\nE \n", fault(api.ErrDoc, 1, 6))
	wantFault(t, "COPY <<E d\\\n# r\n", fault(api.ErrDoc, 1, 6))
	wantFault(t, "COPY <<E d\\\nE\n", fault(api.ErrDoc, 1, 6))
	wantFault(t, "COPY <\\\n<E d\n", fault(api.ErrDoc, 1, 6))
	wantFault(t, "COPY \\\n<<E d\n", fault(api.ErrDoc, 2, 1))
	wantFault(t, "COPY <<E d\nCOPY \"\nE\nCOPY \"\n", fault(api.ErrQuote, 4, 6))
	wantFault(t, "COPY <<E d\nE\nCOPY \"\nCOPY <<\n", fault(api.ErrQuote, 3, 6))
}

func TestQuotesAreRefused(t *testing.T) {
	wantFault(t, "COPY \"", fault(api.ErrQuote, 1, 6))
	wantFault(t, "COPY '", fault(api.ErrQuote, 1, 6))
	wantFault(t, "A\n copy << \\\n\n# r\n a\"b\" 'x \\\n y\n", fault(api.ErrQuote, 5, 7))
	wantFault(t, "COPY <<E \"\nE\n", fault(api.ErrQuote, 1, 10))
	wantFault(t, "# escape=`\nCOPY \\\"\n", fault(api.ErrQuote, 2, 7))
	wantFault(t, "COPY `\"\n", fault(api.ErrQuote, 1, 7))
	wantLines(t, "COPY \\\"\n", '\\', list(line(1, "COPY \\\"", mark(0, 1, 1))))
	wantLines(t, "# escape=`\nCOPY `\"\n", '`', list(line(2, "COPY `\"", mark(0, 2, 1))))
}

// P14.1: the whole file is refused.

func TestFilesAreRefused(t *testing.T) {
	full := strings.Repeat("x", api.MaxSource)
	wantLines(t, full, '\\', list(line(1, full, mark(0, 1, 1))))
	wantFault(t, full+"x", fault(api.ErrMany, 0, 0))
	wantFault(t, "\xff\n# escape=x\n"+full, fault(api.ErrMany, 0, 0))
	most := strings.Repeat("\n", api.MaxLines)
	wantLines(t, most, '\\', nil)
	wantLines(t, most[1:]+"A", '\\', list(line(api.MaxLines, "A", mark(0, api.MaxLines, 1))))
	wantFault(t, most+"\r", fault(api.ErrMany, api.MaxLines+1, 1))
	wantFault(t, most+"\n", fault(api.ErrMany, api.MaxLines+1, 1))
	wantFault(t, "#escape=x\n"+most, fault(api.ErrMany, api.MaxLines+1, 1))
	wantFault(t, "COPY \"\n"+most, fault(api.ErrMany, api.MaxLines+1, 1))
	wantFault(t, most+"\n\n  \x80", fault(api.ErrText, api.MaxLines+3, 3))
	for _, bad := range []string{"\x80", "\xff", "\xc3", "\xc3x", "\xc0\x80", "\xc1\xbf", "\xe0\x9f\xbf", "\xed\xa0\x80", "\xed\xbf\xbf", "\xf0\x8f\xbf\xbf", "\xf4\x90\x80\x80", "\xf5\x80\x80\x80", "\xe2\x82", "\xf0\x9f\x98", "\xe2\n\x82\xac"} {
		wantFault(t, bad, fault(api.ErrText, 1, 1))
		wantFault(t, "# escape=x\r\nCOPY \"\n\u00e9\r \uFFFD"+bad+"\xff", fault(api.ErrText, 3, 8))
	}
	wantLines(t, "\uFFFD\u00e9\u20ac\U0001F600\U0010FFFF\ud7ff\ue000", '\\', list(line(1, "\uFFFD\u00e9\u20ac\U0001F600\U0010FFFF\ud7ff\ue000", mark(0, 1, 1))))
}

// P14.1 and P14.3, against the second telling.

func TestAllShortFiles(t *testing.T) {
	eachText([]string{"a", " ", "\\", "#", "\n", "\r"}, 7, func(s string) { agrees(t, s) })
	eachText([]string{"#", "escape", "=", "`", "\\", "\n", " "}, 6, func(s string) { agrees(t, s) })
	eachText([]string{"COPY ", "<<E", "<<-", "E", "\n", "\t", "\"", "\\\n"}, 6, func(s string) { agrees(t, s) })
}

func TestRandomFiles(t *testing.T) {
	pieces := []string{"a", "COPY ", "copy\t", " <<E", " <<-F", " <<'E'", " <<-\"F\"", " <<", "\nE\n", "\n\tF\r\n", "\nF\n", "\nE\n", "\n", "\n", "\n\n", "\\\n", "\\ \n", "`\n", "`", "\\", " ", "\t", "\r", "\r\n", "#", "\n# r\n", "\"", "'", "\u00e9", "<", "-", "\nCOPY <<E d\n"}
	heads := []string{"", "", "# escape=`\n", "#Escape = \\\n", "# escape=`\n# r\n", "\n", "# escape=`\n# escape=`\n"}
	random := rand.New(rand.NewSource(14))
	taken := 0
	for range 60000 {
		var s strings.Builder
		s.WriteString(heads[random.Intn(len(heads))])
		for range random.Intn(24) {
			s.WriteString(pieces[random.Intn(len(pieces))])
		}
		agrees(t, s.String())
		if plainLines(s.String()).fault.No == api.OK {
			taken++
		}
	}
	if taken < 6000 {
		t.Errorf("only %d of the files were taken", taken)
	}
}

func TestRandomBytes(t *testing.T) {
	random := rand.New(rand.NewSource(41))
	for range 20000 {
		s := make([]byte, random.Intn(12))
		for i := range s {
			s[i] = byte(random.Intn(256))
		}
		agrees(t, string(s))
	}
}

// P14.2

func TestPlace(t *testing.T) {
	marks := []api.Mark{mark(2, 5, 3), mark(4, 9, 1), mark(3, 7, 10)}
	l := api.Line{Line: 4, Text: "abcdef", Marks: marks}
	for at, want := range map[int][2]int{math.MinInt: {4, 1}, -1: {4, 1}, 0: {4, 1}, 1: {4, 2}, 2: {5, 3}, 3: {7, 10}, 4: {7, 11}, 6: {7, 13}, 7: {7, 13}, math.MaxInt: {7, 13}} {
		if row, col := lex.Place(l, at); row != want[0] || col != want[1] {
			t.Errorf("Place(%d) is %d:%d, not %d:%d", at, row, col, want[0], want[1])
		}
	}
	if row, col := lex.Place(api.Line{}, 5); row != 0 || col != 1 {
		t.Errorf("Place of an empty line is %d:%d", row, col)
	}
	if row, col := lex.Place(api.Line{Line: -3, Text: "ab"}, 2); row != -3 || col != 3 {
		t.Errorf("Place of a line without marks is %d:%d", row, col)
	}
}

func TestPlaceWrapsRound(t *testing.T) {
	l := api.Line{Text: "abc", Marks: []api.Mark{mark(0, -1, math.MaxInt)}}
	if row, col := lex.Place(l, 2); row != -1 || col != math.MinInt+1 {
		t.Errorf("Place is %d:%d", row, col)
	}
	l.Marks[0] = mark(math.MinInt, math.MinInt, -1)
	if row, col := lex.Place(l, 0); row != math.MinInt || col != math.MaxInt {
		t.Errorf("Place is %d:%d", row, col)
	}
}

func TestRandomPlaces(t *testing.T) {
	random := rand.New(rand.NewSource(142))
	number := func() int {
		switch random.Intn(8) {
		case 0:
			return math.MinInt + random.Intn(3)
		case 1:
			return math.MaxInt - random.Intn(3)
		}
		return random.Intn(12) - 3
	}
	for range 50000 {
		l := api.Line{Line: number(), Text: "abcdefgh"[:random.Intn(9)]}
		for range random.Intn(5) {
			l.Marks = append(l.Marks, mark(number(), number(), number()))
		}
		at := number()
		row, col := lex.Place(l, at)
		if wantRow, wantCol := plainPlace(l, at); row != wantRow || col != wantCol {
			t.Fatalf("Place(%v, %d) is %d:%d, not %d:%d", l, at, row, col, wantRow, wantCol)
		}
	}
}

// P14.4

// shifted are the lines with the numbers of lines from one on raised by one.
func shifted(lines []api.Line, from int) []api.Line {
	raise := func(n int) int {
		if n >= from {
			return n + 1
		}
		return n
	}
	var list []api.Line
	for _, l := range lines {
		moved := api.Line{Line: raise(l.Line), Text: l.Text}
		for _, m := range l.Marks {
			moved.Marks = append(moved.Marks, mark(m.At, raise(m.Line), m.Col))
		}
		for _, d := range l.Docs {
			moved.Docs = append(moved.Docs, api.Doc{Name: d.Name, Raw: d.Raw, Line: raise(d.Line), Text: d.Text})
		}
		list = append(list, moved)
	}
	return list
}

func TestRemarksChangeNothing(t *testing.T) {
	file := strings.Split("# escape=`\nA`\nB\nCOPY `\n<<E <<-F d\n#x\nE\n\ty\n\tF\n`\n C`\nD\nE` \n\n", "\n")
	free := []int{2, 3, 4, 5, 10, 11, 12, 13, 14, 15} // a line may stand ahead of these, the first one is 1
	escape, before, err := lex.Lines(strings.Join(file, "\n"))
	if err != nil || len(before) != 4 || escape != '`' {
		t.Fatal(escape, before, err)
	}
	for _, at := range free {
		for _, more := range []string{"", " \t\r", "#", " # r`", "# escape", "#x=`", "## escape=x"} {
			longer := slices.Insert(slices.Clone(file), at-1, more)
			wantLines(t, strings.Join(longer, "\n"), escape, shifted(before, at))
		}
	}
}

// P14.5

func TestOneLineIsItself(t *testing.T) {
	random := rand.New(rand.NewSource(145))
	pieces := []string{"a", "COPY ", "\"x y\"", "'", "\\", "\\", " ", "\t", "#", "\u00e9", "\u20ac", "`", "<", "-<", "\x00", "\v"}
	for range 4000 {
		var text strings.Builder
		for range random.Intn(10) {
			text.WriteString(pieces[random.Intn(len(pieces))])
		}
		s := text.String()
		said := strings.TrimRight(s, " \t")
		if said == "" || strings.IndexByte(" \t#", s[0]) >= 0 || strings.HasSuffix(said, "\\") || strings.Contains(s, "<<") {
			continue
		}
		_, _, err := lex.Lines(s)
		if err != nil {
			continue
		}
		wantLines(t, s, '\\', list(line(1, s, mark(0, 1, 1))))
		for at, r := range s {
			if strings.ContainsRune(" \t#", r) {
				continue
			}
			c, got, err := lex.Lines(s[:at] + "\\\n" + s[at:])
			if err != nil || c != '\\' || len(got) != 1 || got[0].Text != s || got[0].Line != 1 {
				t.Fatalf("%q, cut at %d: %q, %v, %v", s, at, c, got, err)
			}
		}
	}
}

// P14.6

func TestDocumentsAsTheyAre(t *testing.T) {
	random := rand.New(rand.NewSource(146))
	lines := []string{"", "a", "# r", "# escape=x", "x \\", "\\", "\"", "\t", "\tN9", "N9 ", "n9", "<<N9", "COPY <<N9 d", "N", "\u00e9", " \t"}
	for range 4000 {
		var text strings.Builder
		for range random.Intn(8) {
			text.WriteString(lines[random.Intn(len(lines))] + "\n")
		}
		wantLines(t, "COPY <<N9 d\n"+text.String()+"N9\nB\n", '\\', list(
			with(line(1, "COPY <<N9 d", mark(0, 1, 1)), api.Doc{Name: "N9", Line: 2, Text: text.String()}),
			line(strings.Count(text.String(), "\n")+3, "B", mark(0, strings.Count(text.String(), "\n")+3, 1))))
	}
}

// R4

func TestMemory(t *testing.T) {
	s := "A\\\nB\nCOPY <<E <<F d\nE\nF\nCOPY <<E <<F <<G d\nE\nF\nG\nC"
	_, first, _ := lex.Lines(s)
	_, second, _ := lex.Lines(s)
	for i := range first {
		marks, docs := first[i].Marks, first[i].Docs
		marks, docs = marks[:cap(marks)], docs[:cap(docs)]
		for j := range marks {
			marks[j] = mark(-1, -1, -1)
		}
		for j := range docs {
			docs[j] = api.Doc{Name: "gone"}
		}
		for j := i + 1; j < len(first); j++ {
			if !sameLine(first[j], second[j]) {
				t.Fatalf("line %d changed with line %d", j, i)
			}
		}
	}
	wantLines(t, s, '\\', second)
	l := api.Line{Line: 1, Text: "ab", Marks: make([]api.Mark, 1, 4)}
	lex.Place(l, 1)
	for _, m := range l.Marks[:4] {
		if m != (api.Mark{}) {
			t.Error("Place has changed the marks")
		}
	}
}

// R1: long files end in time.

func TestLongFiles(t *testing.T) {
	opens := strings.Repeat(" <<E", 4000)
	agrees(t, "COPY"+opens+"\n"+strings.Repeat("E\n", 4000))
	agrees(t, "COPY"+opens+"\n"+strings.Repeat("E\n", 3999))
	agrees(t, strings.Repeat("a\\\n", api.MaxLines))
	agrees(t, strings.Repeat("COPY <<E d\nE\n", api.MaxLines/2))
	agrees(t, strings.Repeat("\\", api.MaxSource))
	agrees(t, strings.Repeat(" ", api.MaxSource))
	agrees(t, strings.Repeat("\r", api.MaxSource))
}
