package parse_test

import (
	"errors"
	"fmt"
	"math/rand"
	"regexp"
	"slices"
	"strings"
	"testing"

	"strata/api"
	"strata/lex"
	"strata/parse"
	"strata/words"
)

// fault is an error at a place.
func fault(no api.Errno, line, at int) api.Fault { return api.Fault{No: no, Line: line, At: at} }

// row is lines, each with the byte 0a behind it.
func row(lines ...string) string { return strings.Join(lines, "\n") + "\n" }

func sameStep(a, b api.Step) bool {
	return a.Op == b.Op && a.Line == b.Line && a.From == b.From && a.Mode == b.Mode && a.Force == b.Force && a.Bare == b.Bare &&
		slices.Equal(a.Pairs, b.Pairs) && slices.Equal(a.Words, b.Words) && slices.Equal(a.Docs, b.Docs) && slices.Equal(a.Exec, b.Exec)
}

func sameStage(a, b api.Stage) bool {
	return a.Line == b.Line && a.Base == b.Base && a.Name == b.Name && slices.EqualFunc(a.Steps, b.Steps, sameStep)
}

func sameFile(a, b api.File) bool {
	return a.Escape == b.Escape && slices.EqualFunc(a.Args, b.Args, sameStep) && slices.EqualFunc(a.Stages, b.Stages, sameStage)
}

// wantFile fails unless File answers the file.
func wantFile(t *testing.T, s string, want api.File) {
	t.Helper()
	got, err := parse.File(s)
	if err != nil || !sameFile(got, want) {
		t.Fatalf("File(%.300q) is %.600q, %v, not %.600q", s, fmt.Sprint(got), err, fmt.Sprint(want))
	}
}

// wantStep fails unless the line, behind a line that begins a stage, is that step.
func wantStep(t *testing.T, line string, want api.Step) {
	t.Helper()
	want.Line = 2
	wantFile(t, "FROM a\n"+line, api.File{Escape: '\\', Stages: []api.Stage{{Line: 1, Base: "a", Steps: []api.Step{want}}}})
}

// wantFault fails unless File answers the error at the place, one Fault alone, and nothing else.
func wantFault(t *testing.T, s string, want api.Fault) {
	t.Helper()
	got, err := parse.File(s)
	if !sameFile(got, api.File{}) || err == nil {
		t.Fatalf("File(%.300q) is %.300q, %v, not %v at %d:%d", s, fmt.Sprint(got), err, want.No, want.Line, want.At)
	}
	for no := api.ErrArg; no <= api.ErrEmpty; no++ {
		if errors.Is(err, no) != (no == want.No) {
			t.Fatalf("File(%.300q): the error is %v, not %v", s, err, want.No)
		}
	}
	met := 0
	for e := err; e != nil; e = errors.Unwrap(e) {
		if f, is := e.(api.Fault); is {
			met++
			if f != want {
				t.Fatalf("File(%.300q): the fault is %v at %d:%d, not %v at %d:%d", s, f.No, f.Line, f.At, want.No, want.Line, want.At)
			}
		}
	}
	if met != 1 {
		t.Fatalf("File(%.300q): there are %d faults", s, met)
	}
}

// wantBehind fails unless the line, behind a line that begins a stage, is refused at that byte of it.
func wantBehind(t *testing.T, line string, no api.Errno, at int) {
	t.Helper()
	wantFault(t, "FROM a\n"+line, fault(no, 2, at))
}

// agrees fails unless File answers what the second telling does; it tells whether the file was taken.
func agrees(t *testing.T, s string) bool {
	t.Helper()
	want := plainFile(s)
	if want.fault.No != api.OK {
		wantFault(t, s, want.fault)
		return false
	}
	wantFile(t, s, want.file)
	return true
}

// instructions are all there are, with arguments that each takes.
var instructions = []struct{ word, arguments string }{
	{"FROM", "a"}, {"ARG", "A"}, {"ENV", "A=b"}, {"LABEL", "A=b"}, {"WORKDIR", "a"}, {"COPY", "a b"}, {"ADD", "a b"}, {"RM", "a"},
	{"MKDIR", "a"}, {"LINK", "a b"}, {"MODE", "1 a"}, {"USER", "a"}, {"EXPOSE", "1"}, {"CMD", "[]"}, {"ENTRYPOINT", "[]"},
}

// mayBeAhead tells whether a line with the instruction may stand ahead of the first stage.
func mayBeAhead(word string) bool { return word == "FROM" || word == "ARG" }

func TestExamples(t *testing.T) {
	wantFile(t, row("arg A=1", "from $A as Base", `copy --from=x --chmod=644 a "b c" d/`), api.File{
		Escape: '\\',
		Args:   []api.Step{{Op: api.OpArg, Line: 1, Pairs: []api.Pair{{Key: "A", Val: "1"}}}},
		Stages: []api.Stage{{Line: 2, Base: "$A", Name: "base", Steps: []api.Step{
			{Op: api.OpCopy, Line: 3, From: "x", Mode: "644", Words: []string{"a", `"b c"`, "d/"}},
		}}},
	})
	wantFile(t, row("FROM a", `ENV A=b=c B="x y"`, "ARG Q", "RM --force x", `CMD ["a", "b"]`), api.File{
		Escape: '\\',
		Stages: []api.Stage{{Line: 1, Base: "a", Steps: []api.Step{
			{Op: api.OpEnv, Line: 2, Pairs: []api.Pair{{Key: "A", Val: "b=c"}, {Key: "B", Val: `"x y"`}}},
			{Op: api.OpArg, Line: 3, Pairs: []api.Pair{{Key: "Q"}}, Bare: true},
			{Op: api.OpRm, Line: 4, Words: []string{"x"}, Force: true},
			{Op: api.OpCmd, Line: 5, Exec: []string{"a", "b"}},
		}}},
	})
	wantFault(t, "", fault(api.ErrShort, 0, 0))
	wantFault(t, "ARG A", fault(api.ErrShort, 0, 0))
	wantFault(t, "RUN a", fault(api.ErrOp, 1, 1))
	wantFault(t, "ENV A=b", fault(api.ErrStage, 1, 1))
	wantFault(t, "FROM", fault(api.ErrShort, 1, 1))
	wantFault(t, "FROM a b", fault(api.ErrShort, 1, 1))
	wantFault(t, "FROM a to b", fault(api.ErrForm, 1, 8))
	wantFault(t, "FROM a as b c", fault(api.ErrLong, 1, 13))
	wantBehind(t, "  ENV A", api.ErrForm, 7)
	wantBehind(t, "ENV =b", api.ErrForm, 5)
	wantBehind(t, "ENV", api.ErrShort, 1)
	wantBehind(t, "ARG A B", api.ErrLong, 7)
	wantBehind(t, "USER 'b", api.ErrQuote, 6)
	wantBehind(t, "COPY --chmod a b", api.ErrFlag, 6)
	wantBehind(t, "COPY --from= a b", api.ErrFlag, 6)
	wantBehind(t, "ADD --from=x a b", api.ErrFlag, 5)
	wantBehind(t, "RM --force=1 a", api.ErrFlag, 4)
	wantBehind(t, "COPY -- a b", api.ErrFlag, 6)
	wantBehind(t, "COPY --from=x --from=y a b", api.ErrTwice, 15)
	wantStep(t, "COPY a --from=x b", api.Step{Op: api.OpCopy, Words: []string{"a", "--from=x", "b"}})
	wantBehind(t, row("COPY a <<E", "x", "E"), api.ErrForm, 8)
	wantStep(t, row("COPY <<E d", "x", "E"), api.Step{Op: api.OpCopy, Words: []string{"<<E", "d"}, Docs: []api.Doc{{Name: "E", Line: 3, Text: "x\n"}}})
	wantBehind(t, "CMD", api.ErrShort, 4)
	wantBehind(t, `CMD "a"`, api.ErrForm, 5)
	wantBehind(t, `CMD ["a",]`, api.ErrForm, 10)
	wantBehind(t, `CMD ["a", 1]`, api.ErrForm, 5)
}

// P16.1

func TestLinesAreRefusedFirst(t *testing.T) {
	wantFault(t, strings.Repeat("x", api.MaxSource+1), fault(api.ErrMany, 0, 0))
	wantFault(t, "RUN\n\n \xff", fault(api.ErrText, 3, 2))
	wantFault(t, "RUN\n"+strings.Repeat("\n", api.MaxLines), fault(api.ErrMany, api.MaxLines+1, 1))
	wantFault(t, "# escape=x\nRUN", fault(api.ErrForm, 1, 9))
	wantFault(t, "# escape=`\n# escape=`\nRUN", fault(api.ErrTwice, 2, 1))
	wantFault(t, "RUN\nCOPY a \\\n 'b", fault(api.ErrQuote, 3, 2))
	wantFault(t, "RUN\nCOPY <<E d", fault(api.ErrDoc, 2, 6))
}

func TestFirstWrongLine(t *testing.T) {
	wantFault(t, row("ARG A", "FROM a", "RM a", "MODE 1", "RUN", "ENV"), fault(api.ErrShort, 4, 1))
	wantFault(t, row("FROM a", "FROM b", "RM '", "MODE 1"), fault(api.ErrQuote, 3, 4))
	wantFault(t, row("ARG A", "USER a", "RUN"), fault(api.ErrStage, 2, 1))
	wantFault(t, row("ARG A", "ARG", "FROM a"), fault(api.ErrShort, 2, 1))
}

func TestNoStage(t *testing.T) {
	for _, s := range []string{"\n", "# FROM a", "  \n\t\n", "# escape=`\n", "ARG A\nARG B=c\n", "\\\n\\\n"} {
		wantFault(t, s, fault(api.ErrShort, 0, 0))
	}
}

func TestWhole(t *testing.T) {
	wantFile(t, row("# escape=`", "ARG A", "ARG B=1", "FROM a", "USER u", "RM x\\ `", " y", "FROM b AS c", "FROM d"), api.File{
		Escape: '`',
		Args: []api.Step{
			{Op: api.OpArg, Line: 2, Pairs: []api.Pair{{Key: "A"}}, Bare: true},
			{Op: api.OpArg, Line: 3, Pairs: []api.Pair{{Key: "B", Val: "1"}}},
		},
		Stages: []api.Stage{
			{Line: 4, Base: "a", Steps: []api.Step{{Op: api.OpUser, Line: 5, Words: []string{"u"}}, {Op: api.OpRm, Line: 6, Words: []string{"x\\", "y"}}}},
			{Line: 8, Base: "b", Name: "c"},
			{Line: 9, Base: "d"},
		},
	})
}

// P16.2

func TestEachInstruction(t *testing.T) {
	ops := []api.Op{api.OpArg, api.OpEnv, api.OpLabel, api.OpWorkdir, api.OpCopy, api.OpAdd, api.OpRm, api.OpMkdir, api.OpLink, api.OpMode, api.OpUser, api.OpExpose, api.OpCmd, api.OpEntrypoint}
	for i, x := range instructions {
		for _, word := range []string{x.word, strings.ToLower(x.word), x.word[:1] + strings.ToLower(x.word[1:])} {
			for _, blank := range []string{" ", "\t", "\r", " \t\r "} {
				f, err := parse.File("FROM a\n" + word + blank + x.arguments)
				if err != nil {
					t.Fatalf("%q: %v", word, err)
				}
				switch steps := f.Stages[0].Steps; {
				case i == 0 && len(f.Stages) == 2:
				case i > 0 && len(f.Stages) == 1 && len(steps) == 1 && steps[0].Op == ops[i-1]:
				default:
					t.Fatalf("%q is %v", word, f)
				}
			}
		}
	}
}

func TestNoInstruction(t *testing.T) {
	for _, word := range []string{"RUN", "F", "FRO", "FROMS", "FROM=a", "FROM\\ a", `"FROM"`, "'FROM'", `FR"OM a"`, "FROM[]", "CMD[]", "OPNONE", "--force", "FROM\v", "FROM\u00a0a", "\u00a0FROM", "LIN\u212a", "U\u017fER", "wor\u212adir", "<<E", "=", "\u00e9", "''", "[]"} {
		wantFault(t, word+" a b", fault(api.ErrOp, 1, 1))
		wantFault(t, "FROM a\n \t"+word, fault(api.ErrOp, 2, 3))
	}
	wantFault(t, "\\\n \t\\\n RUN a", fault(api.ErrOp, 3, 2))
	wantFault(t, "FR\\\nO a", fault(api.ErrOp, 1, 1))
	wantFile(t, "\\\n FR\\\n# r\nOM\\\n a", api.File{Escape: '\\', Stages: []api.Stage{{Line: 1, Base: "a"}}})
	wantFault(t, "\\\n FR\\\nOM", fault(api.ErrShort, 2, 2))
}

func TestStepsAheadOfStages(t *testing.T) {
	for _, x := range instructions {
		for _, arguments := range []string{"", x.arguments, "--no", "''''"} {
			if s := "ARG A\n " + x.word + " " + arguments; mayBeAhead(x.word) {
				agrees(t, s)
			} else {
				wantFault(t, s, fault(api.ErrStage, 2, 2))
			}
		}
	}
	wantFault(t, "USER '", fault(api.ErrStage, 1, 1))
	wantFault(t, "CMD {", fault(api.ErrStage, 1, 1))
}

func TestTooManyStages(t *testing.T) {
	most := strings.Repeat("FROM a\n", api.MaxStages)
	agrees(t, most)
	for _, behind := range []string{"", " a", " '", " a b", strings.Repeat(" a", api.MaxWords)} {
		wantFault(t, most+"USER a\n FROM"+behind, fault(api.ErrMany, api.MaxStages+2, 2))
	}
	wantFault(t, most+"RUN", fault(api.ErrOp, api.MaxStages+1, 1))
}

func TestTooManySteps(t *testing.T) {
	args := strings.Repeat("ARG A\n", 12)
	most := args + strings.Repeat("FROM a\n"+strings.Repeat("RM a\n", 50), 10)
	if !agrees(t, most) {
		t.Fatal("the most steps were refused")
	}
	if !agrees(t, most+"FROM b\n") {
		t.Fatal("a stage counts as a step")
	}
	lines := strings.Count(most, "\n")
	for _, step := range []string{"RM", "RM a", "RM '", "RM --x", "ENV", "CMD", "CMD {", "ARG", "ARG A"} {
		wantFault(t, most+"  "+step+"\n", fault(api.ErrMany, lines+1, 3))
		wantFault(t, most+"FROM b\n"+step+"\n", fault(api.ErrMany, lines+2, 1))
	}
	wantFault(t, strings.Repeat("ARG A\n", api.MaxSteps+1), fault(api.ErrMany, api.MaxSteps+1, 1))
	if !agrees(t, strings.Repeat("ARG A\n", api.MaxSteps)+"FROM a") {
		t.Fatal("the most Args were refused")
	}
	wantFault(t, strings.Repeat("ARG A\n", api.MaxSteps)+"USER a", fault(api.ErrStage, api.MaxSteps+1, 1))
	wantFault(t, strings.Repeat("ARG A\n", api.MaxSteps)+"RUN a", fault(api.ErrOp, api.MaxSteps+1, 1))
}

func TestQuotes(t *testing.T) {
	for _, x := range instructions {
		if x.word == "CMD" || x.word == "ENTRYPOINT" {
			continue
		}
		wantFault(t, "FROM a\n"+x.word+"\\\n  --x 'a' \"", fault(api.ErrQuote, 3, 11))
		wantFault(t, "FROM a\n"+x.word+strings.Repeat(" a", api.MaxWords)+" '", fault(api.ErrQuote, 2, len(x.word)+2*api.MaxWords+2))
	}
	wantFault(t, "# escape=`\nFROM \\'", fault(api.ErrQuote, 2, 7))
	wantFile(t, "# escape=`\nFROM `'", api.File{Escape: '`', Stages: []api.Stage{{Line: 2, Base: "`'"}}})
}

func TestTooManyWords(t *testing.T) {
	for _, x := range instructions {
		if x.word == "CMD" || x.word == "ENTRYPOINT" {
			continue
		}
		for _, argument := range []string{" a", " --x", " ="} {
			row := strings.Repeat(argument, api.MaxWords-1)
			agrees(t, "FROM a\n"+x.word+row)
			wantFault(t, "FROM a\n"+x.word+row+" \\\n\t a b", fault(api.ErrMany, 3, 3))
		}
	}
	wantStep(t, "RM --force"+strings.Repeat(" a", api.MaxWords-2), api.Step{Op: api.OpRm, Force: true, Words: slices.Repeat([]string{"a"}, api.MaxWords-2)})
	wantBehind(t, "RM --force"+strings.Repeat(" a", api.MaxWords-1), api.ErrMany, 8+2*api.MaxWords)
	wantBehind(t, "COPY"+strings.Repeat(" <<E", api.MaxWords-1)+" d\n"+strings.Repeat("E\n", api.MaxWords-1), api.ErrMany, 6+4*(api.MaxWords-1))
}

// P16.3

func TestFlags(t *testing.T) {
	ab := []string{"a", "b"}
	wantStep(t, "COPY --from=x a b", api.Step{Op: api.OpCopy, From: "x", Words: ab})
	wantStep(t, "COPY --chmod=y a b", api.Step{Op: api.OpCopy, Mode: "y", Words: ab})
	wantStep(t, "COPY --chmod=y --from=x a b", api.Step{Op: api.OpCopy, From: "x", Mode: "y", Words: ab})
	wantStep(t, "ADD --chmod=y a b", api.Step{Op: api.OpAdd, Mode: "y", Words: ab})
	wantStep(t, "RM --force a b", api.Step{Op: api.OpRm, Force: true, Words: ab})
	wantStep(t, "MKDIR --mode=y a b", api.Step{Op: api.OpMkdir, Mode: "y", Words: ab})
	wantStep(t, `COPY --from="a b"'' --chmod== a b`, api.Step{Op: api.OpCopy, From: `"a b"''`, Mode: "=", Words: ab})
	wantStep(t, `MKDIR --mode='' a b`, api.Step{Op: api.OpMkdir, Mode: "''", Words: ab})
	wantStep(t, `COPY --from=--from=x a b`, api.Step{Op: api.OpCopy, From: "--from=x", Words: ab})
	wantStep(t, `COPY --from=\  a b`, api.Step{Op: api.OpCopy, From: `\ `, Words: ab})
	wantStep(t, `COPY --from=$X a b`, api.Step{Op: api.OpCopy, From: `$X`, Words: ab})
}

func TestFlagsEnd(t *testing.T) {
	wantStep(t, "COPY - --from=x b", api.Step{Op: api.OpCopy, Words: []string{"-", "--from=x", "b"}})
	wantStep(t, `COPY "--from=x" b`, api.Step{Op: api.OpCopy, Words: []string{`"--from=x"`, "b"}})
	wantStep(t, `COPY \--from=x b`, api.Step{Op: api.OpCopy, Words: []string{`\--from=x`, "b"}})
	wantStep(t, `COPY -\-from=x b`, api.Step{Op: api.OpCopy, Words: []string{`-\-from=x`, "b"}})
	wantStep(t, "COPY --chmod=1 a --chmod=2 --no", api.Step{Op: api.OpCopy, Mode: "1", Words: []string{"a", "--chmod=2", "--no"}})
	wantStep(t, "RM --force x --force --", api.Step{Op: api.OpRm, Force: true, Words: []string{"x", "--force", "--"}})
	wantStep(t, row("COPY --from=x <<E --chmod=1 d", "E"), api.Step{Op: api.OpCopy, From: "x", Words: []string{"<<E", "--chmod=1", "d"}, Docs: []api.Doc{{Name: "E", Line: 3}}})
}

func TestFlagsAreRefused(t *testing.T) {
	flags := []string{"--from=x", "--chmod=x", "--force", "--mode=x"}
	known := map[string]string{"COPY": "--from=x --chmod=x", "ADD": "--chmod=x", "RM": "--force", "MKDIR": "--mode=x"}
	for word, its := range known {
		for _, flag := range flags {
			if strings.Contains(its, flag) {
				agrees(t, "FROM a\n"+word+" "+flag+" a b")
				wantBehind(t, word+" "+flag+"  "+flag, api.ErrTwice, len(word)+len(flag)+4)
				wantBehind(t, word+" "+flag+"  --no", api.ErrFlag, len(word)+len(flag)+4)
			} else {
				wantBehind(t, word+" "+flag+" a b", api.ErrFlag, len(word)+2)
			}
		}
		for _, flag := range []string{"--", "---", "--no", "--from", "--from=", "--chmod", "--chmod=", "--mode", "--mode=", "--force=", "--force=1", "--forced", "--FORCE", "--Mode=1", "--From=x", "--CHMOD=1", "--chmods=1", "--chmod:1", "--from:=x", "--from='", "--=", "--\"force\"", "--forc\\e"} {
			if strings.Contains(flag, "'") {
				wantBehind(t, word+" "+flag, api.ErrQuote, len(word)+len(flag)+1)
				continue
			}
			wantBehind(t, word+" "+flag+" a b", api.ErrFlag, len(word)+2)
			wantBehind(t, word+" "+flag, api.ErrFlag, len(word)+2)
		}
	}
	wantBehind(t, "COPY --from=x --chmod=1 --from=y a b", api.ErrTwice, 25)
	wantBehind(t, "COPY --from=x --chmod=1 --chmod=1 --no", api.ErrTwice, 25)
	wantBehind(t, "COPY --from=x --no --from=x a b", api.ErrFlag, 15)
	wantFault(t, "FROM a\nRM --force \\\n\n --force", fault(api.ErrTwice, 4, 2))
}

func TestNoFlags(t *testing.T) {
	wantStep(t, "ENV --a=b", api.Step{Op: api.OpEnv, Pairs: []api.Pair{{Key: "--a", Val: "b"}}})
	wantStep(t, "LABEL --force=", api.Step{Op: api.OpLabel, Pairs: []api.Pair{{Key: "--force"}}})
	wantStep(t, "ARG --force", api.Step{Op: api.OpArg, Pairs: []api.Pair{{Key: "--force"}}, Bare: true})
	wantStep(t, "WORKDIR --force", api.Step{Op: api.OpWorkdir, Words: []string{"--force"}})
	wantStep(t, "USER --", api.Step{Op: api.OpUser, Words: []string{"--"}})
	wantStep(t, "LINK --from=x --mode=1", api.Step{Op: api.OpLink, Words: []string{"--from=x", "--mode=1"}})
	wantStep(t, "MODE --mode=1 --mode=1", api.Step{Op: api.OpMode, Words: []string{"--mode=1", "--mode=1"}})
	wantStep(t, "EXPOSE --x", api.Step{Op: api.OpExpose, Words: []string{"--x"}})
	wantFile(t, "FROM --x as --y", api.File{Escape: '\\', Stages: []api.Stage{{Line: 1, Base: "--x", Name: "--y"}}})
}

// P16.4

func TestHowManyArguments(t *testing.T) {
	const many = api.MaxWords - 1
	for _, x := range []struct {
		word        string
		least, most int
		flags       string
	}{
		{"FROM", 1, 3, ""}, {"ARG", 1, 1, ""}, {"WORKDIR", 1, 1, ""}, {"USER", 1, 1, ""}, {"ENV", 1, many, ""}, {"LABEL", 1, many, ""},
		{"RM", 1, many, "  --force"}, {"MKDIR", 1, many, " --mode=1"}, {"EXPOSE", 1, many, ""}, {"COPY", 2, many, " --from=x --chmod=1"},
		{"ADD", 2, many, " --chmod=1"}, {"MODE", 2, many, ""}, {"LINK", 2, 2, ""},
	} {
		for _, head := range []string{x.word, x.word + x.flags} {
			for n := range many - 2 {
				s := "FROM a\n  " + head
				for i := range n {
					s += []string{" A=b", " as", "\tA=c"}[i%3]
					if x.word == "ENV" || x.word == "LABEL" {
						s += "="
					}
				}
				switch {
				case n < x.least, x.word == "FROM" && n == 2:
					wantFault(t, s, fault(api.ErrShort, 2, 3))
				case n > x.most:
					wantFault(t, s, fault(api.ErrLong, 2, 4+len(head)+[]int{0, 4, 7, 11}[x.most]))
				case !agrees(t, s):
					t.Errorf("%q was refused", s)
				}
			}
		}
	}
}

// P16.5

func TestStages(t *testing.T) {
	for _, x := range []struct{ line, base, name string }{
		{"FROM a", "a", ""}, {"FROM $A-${B:-x}", "$A-${B:-x}", ""}, {`FROM "a b"\ c`, `"a b"\ c`, ""}, {"FROM A aS bCzZaA@[`{_9", "A", "bczzaa@[`{_9"},
		{"FROM as AS as", "as", "as"}, {"from ' As ' As \"$X Y\"", "' As '", "\"$x y\""}, {"FROM a AS \u00c4\u212a\u017f", "a", "\u00c4\u212a\u017f"}, {"FROM a As <<E", "a", "<<e"}, {"FROM a=b AS =", "a=b", "="},
	} {
		wantFile(t, x.line, api.File{Escape: '\\', Stages: []api.Stage{{Line: 1, Base: x.base, Name: x.name}}})
	}
	for _, as := range []string{"a", "s", "ass", `"as"`, "'AS'", `\as`, "$AS", "a\u017f", "A\u017f", "=", "--as", "\u00e9s"} {
		wantFault(t, "FROM \\\n a "+as+" b", fault(api.ErrForm, 2, 4))
		wantFault(t, "FROM \\\n a "+as, fault(api.ErrShort, 1, 1))
		wantFault(t, "FROM \\\n a "+as+" b \\\n c d", fault(api.ErrLong, 3, 2))
	}
}

func TestPairs(t *testing.T) {
	list := []api.Pair{{Key: "A"}, {Key: "A", Val: "="}, {Key: `"x y"`, Val: `'=`}, {Key: "$A", Val: "${B}"}, {Key: "'", Val: "'"}}
	line := ` A= A== "x y"='=`
	wantStep(t, "ENV"+line+"'", api.Step{Op: api.OpEnv, Pairs: []api.Pair{list[0], list[1], {Key: `"x y"`, Val: `'='`}}})
	wantStep(t, "LABEL A=1 A=1 $A=${B} '='=", api.Step{Op: api.OpLabel, Pairs: []api.Pair{{Key: "A", Val: "1"}, {Key: "A", Val: "1"}, list[3], {Key: "'", Val: "'="}}})
	wantStep(t, `ENV \=a=b`, api.Step{Op: api.OpEnv, Pairs: []api.Pair{{Key: `\`, Val: "a=b"}}})
	for _, word := range []string{"ENV", "LABEL"} {
		for _, wrong := range []string{"A", "=", "=A", "==", `"A"`, "''", "$A", `\a`} {
			wantBehind(t, word+" "+wrong, api.ErrForm, len(word)+2)
			wantBehind(t, word+" A=b  "+wrong+" C=d "+wrong, api.ErrForm, len(word)+7)
		}
	}
}

func TestArgs(t *testing.T) {
	for _, x := range []struct {
		word string
		pair api.Pair
		bare bool
	}{
		{"A", api.Pair{Key: "A"}, true}, {"A=", api.Pair{Key: "A"}, false}, {"A=b=c", api.Pair{Key: "A", Val: "b=c"}, false}, {`''`, api.Pair{Key: `''`}, true},
		{`"a b"`, api.Pair{Key: `"a b"`}, true}, {`"a=b"`, api.Pair{Key: `"a`, Val: `b"`}, false}, {"$A", api.Pair{Key: "$A"}, true}, {"A==", api.Pair{Key: "A", Val: "="}, false},
	} {
		wantStep(t, "ARG "+x.word, api.Step{Op: api.OpArg, Pairs: []api.Pair{x.pair}, Bare: x.bare})
		wantFile(t, row("ARG "+x.word, "FROM a"), api.File{Escape: '\\', Args: []api.Step{{Op: api.OpArg, Line: 1, Pairs: []api.Pair{x.pair}, Bare: x.bare}}, Stages: []api.Stage{{Line: 2, Base: "a"}}})
	}
	for _, wrong := range []string{"=", "=A", "=="} {
		wantBehind(t, " ARG  "+wrong, api.ErrForm, 7)
		wantFault(t, "ARG "+wrong, fault(api.ErrForm, 1, 5))
	}
	wantBehind(t, "ARG =a b", api.ErrLong, 8)
}

func TestWords(t *testing.T) {
	list := []string{`"a b"`, `'c'`, `\ d`, "$E", "a=b", "<<"}
	for word, op := range map[string]api.Op{"ADD": api.OpAdd, "RM": api.OpRm, "MKDIR": api.OpMkdir, "MODE": api.OpMode, "EXPOSE": api.OpExpose} {
		wantStep(t, word+" "+strings.Join(list, " \t"), api.Step{Op: op, Words: list})
	}
	wantStep(t, "LINK <<E <<F", api.Step{Op: api.OpLink, Words: []string{"<<E", "<<F"}})
	wantStep(t, `WORKDIR a\ "b`+"\t"+`"`, api.Step{Op: api.OpWorkdir, Words: []string{`a\ "b` + "\t" + `"`}})
	wantStep(t, `USER ''`, api.Step{Op: api.OpUser, Words: []string{`''`}})
}

func TestDocuments(t *testing.T) {
	wantStep(t, row("copy a <<E b <<-'F' <<E d", "x", "E", "\t$y", "\tF", "E"), api.Step{Op: api.OpCopy, Words: []string{"a", "<<E", "b", "<<-'F'", "<<E", "d"}, Docs: []api.Doc{
		{Name: "E", Line: 3, Text: "x\n"}, {Name: "F", Raw: true, Line: 5, Text: "$y\n"}, {Name: "E", Line: 7},
	}})
	wantStep(t, `COPY "<<E" d`, api.Step{Op: api.OpCopy, Words: []string{`"<<E"`, "d"}})
	wantStep(t, `COPY a x<<E`, api.Step{Op: api.OpCopy, Words: []string{`a`, "x<<E"}})
	wantStep(t, `COPY a "<<E"`, api.Step{Op: api.OpCopy, Words: []string{`a`, `"<<E"`}})
	wantStep(t, `COPY a '<<E'`, api.Step{Op: api.OpCopy, Words: []string{`a`, `'<<E'`}})
	wantStep(t, `ADD a <<E`, api.Step{Op: api.OpAdd, Words: []string{`a`, `<<E`}})
	wantFault(t, row("FROM a", "COPY <<E \\", "  <<F", "E", "F"), fault(api.ErrForm, 3, 3))
	wantFault(t, row("FROM a", "COPY --no <<E", "E"), fault(api.ErrFlag, 2, 6))
	wantFault(t, row("FROM a", "COPY <<E", "E"), fault(api.ErrShort, 2, 1))
	wantFault(t, row("COPY a <<E", "E"), fault(api.ErrStage, 1, 1))
	wantFile(t, row("FROM a", "COPY <<E d", "FROM b", "RUN", "E", "RM x"), api.File{Escape: '\\', Stages: []api.Stage{{Line: 1, Base: "a", Steps: []api.Step{
		{Op: api.OpCopy, Line: 2, Words: []string{"<<E", "d"}, Docs: []api.Doc{{Name: "E", Line: 3, Text: "FROM b\nRUN\n"}}},
		{Op: api.OpRm, Line: 6, Words: []string{"x"}},
	}}}})
}

// P16.6

func TestLists(t *testing.T) {
	for word, op := range map[string]api.Op{"CMD": api.OpCmd, "entrypoint": api.OpEntrypoint} {
		for rest, want := range map[string][]string{
			`[]`: nil, " \t[ ] \r": nil, `[""]`: {""}, `["a b" , "$c" ,"\u00e9\n\\" ] `: {"a b", "$c", "\u00e9\n\\"}, `["'"]`: {"'"}, `["--x", "<<E"]`: {"--x", "<<E"}, "[\"a\",\t\"\u00e9\"]": {"a", "\u00e9"},
		} {
			wantStep(t, word+" "+rest, api.Step{Op: op, Exec: want})
		}
		at := len(word) + 3
		for _, rest := range []string{`"a"`, `1`, `null`, `true`, `{}`, `{"a":["b"]}`, `["a",1]`, `[null]`, `[["a"]]`, `[{}]`, `[` + strings.Repeat(`"",`, api.MaxWords) + `1]`} {
			wantBehind(t, word+"  "+rest+"  ", api.ErrForm, at)
		}
		most := strings.Repeat(`"",`, api.MaxWords-1) + `""`
		wantStep(t, word+"\t["+most+"]", api.Step{Op: op, Exec: make([]string, api.MaxWords)})
		wantBehind(t, word+"  ["+most+`,""]`, api.ErrMany, at)
		wantBehind(t, word+" "+strings.Repeat("[", api.MaxNest+1), api.ErrMany, len(word)+2+api.MaxNest)
	}
}

func TestListsAreRefused(t *testing.T) {
	for rest, want := range map[string]api.Fault{
		"":               fault(api.ErrShort, 2, 4),
		"  ":             fault(api.ErrShort, 2, 6),
		" [":             fault(api.ErrShort, 2, 6),
		` ["a" `:         fault(api.ErrShort, 2, 9),
		` ["a" ` + "\t":  fault(api.ErrShort, 2, 9),
		" a":             fault(api.ErrForm, 2, 5),
		" sh -c a":       fault(api.ErrForm, 2, 5),
		" [a]":           fault(api.ErrForm, 2, 6),
		` ['a']`:         fault(api.ErrForm, 2, 6),
		` ["\x"]`:        fault(api.ErrForm, 2, 7),
		` ["` + "\t":     fault(api.ErrShort, 2, 7),
		` ["` + "\t\"]":  fault(api.ErrForm, 2, 7),
		` [] []`:         fault(api.ErrLong, 2, 8),
		` {"a":1,"a":2}`: fault(api.ErrTwice, 2, 12),
	} {
		wantFault(t, "FROM a\nCMD"+rest, want)
	}
	wantFault(t, "FROM a\nCMD \\\n  \\\n", fault(api.ErrShort, 3, 3))
	wantFault(t, "FROM a\nCMD \\\n# r\n [\"a\", \\\n  b", fault(api.ErrForm, 5, 3))
	wantFault(t, "FROM a\nCMD \\\n  1 \\\n", fault(api.ErrForm, 3, 3))
	wantFault(t, "FROM a\nCMD [\\\n1\\\n]", fault(api.ErrForm, 2, 5))
	wantFault(t, "FROM a\nCMD [\\\n\"a\"\\\n", fault(api.ErrShort, 3, 4))
	wantStep(t, "CMD [\\\n\"a\\\n\\u00\\\n# r\n41\"\\\n]", api.Step{Op: api.OpCmd, Exec: []string{"aA"}})
}

// The whole, against the second telling.

// eachText calls f with all texts of at most so many of the pieces.
func eachText(pieces []string, most int, f func(s string)) {
	f("")
	if most == 0 {
		return
	}
	for _, p := range pieces {
		eachText(pieces, most-1, func(s string) { f(p + s) })
	}
}

func TestAllShortFiles(t *testing.T) {
	eachText([]string{"FROM", " a", " as", "\n", "\\\n", "RM", "ARG", " =", " '"}, 5, func(s string) { agrees(t, s) })
}

func TestAllShortLines(t *testing.T) {
	for _, x := range instructions {
		eachText([]string{" a", " A=b", " --force", " --mode=1", " --from=x", " --chmod=", "1", " <<E", "\t", " \"", "\\\n"}, 4, func(s string) {
			agrees(t, "FROM a\n"+x.word+s+"\nE\n")
		})
	}
}

func TestAllShortLists(t *testing.T) {
	eachText([]string{"[", "]", ",", `"`, "a", " ", "\t", "1", "\\\n", "\n"}, 5, func(s string) { agrees(t, "FROM a\nCMD "+s) })
}

// some is one of the texts.
func some(random *rand.Rand, list ...string) string { return list[random.Intn(len(list))] }

// randomWords are words behind an instruction, few of them wrong.
func randomWords(random *rand.Rand, word string) string {
	right := map[string][]string{
		"FROM": {" a", " $A", " a as B", " b AS c"}, "ARG": {" A", " A=b", ` B="x y"`}, "WORKDIR": {" a", ` "a b"`}, "USER": {" u", ` \u`},
		"COPY": {" a b", " --from=x a b", " --chmod=1 --from=x a b", " <<E d", " <<E <<-'F' d", " a \\\n b"}, "ADD": {" a b", " --chmod=1 a <<E"},
		"RM": {" a", " --force a b", " a --force"}, "MKDIR": {" a", " --mode=1 a"}, "LINK": {" a b", " '' b"}, "MODE": {" 1 a", " 1 a b"}, "EXPOSE": {" 1", " 1 2/udp"},
		"ENV": {" A=b", " A=b C='d e'", " A= \\\n# r\n B=="}, "LABEL": {" A=b", " \"x y\"="}, "CMD": {" []", ` ["a"]`, " [ \\\n \"b\" , \"c\" ] "}, "ENTRYPOINT": {` ["a", "\u0041"]`},
	}
	s := some(random, right[word]...)
	if random.Intn(12) == 0 {
		s = some(random, "", " ", s+" x", " --force"+s, " --mode=1"+s, " --from=x"+s, s+" =", s+" '", s+" <<E", " ["+s)
	}
	return s
}

// randomFile is lines, few of them wrong.
func randomFile(random *rand.Rand) string {
	var s strings.Builder
	s.WriteString(some(random, "", "", "", "# escape=\\\n", "# escape=`\n"))
	for range random.Intn(3) {
		s.WriteString("ARG" + randomWords(random, "ARG") + "\n")
	}
	if random.Intn(20) > 0 {
		s.WriteString("FROM" + randomWords(random, "FROM") + "\n")
	}
	for range random.Intn(8) {
		word := instructions[random.Intn(len(instructions))].word
		words := randomWords(random, word)
		s.WriteString(some(random, "", "", "", " ", "# r\n", "\n", "\\\n ") + some(random, word, word, strings.ToLower(word)) + words + "\n")
		if opened := strings.Count(words, "<<"); word == "COPY" {
			s.WriteString(strings.Repeat(some(random, "", "x\n", "FROM \\\n")+"E\n", min(opened, 1)))
			s.WriteString(strings.Repeat(some(random, "", "\tx\n", "# r\n")+"\tF\n", max(opened-1, 0)))
		}
	}
	return s.String()
}

func TestRandomFiles(t *testing.T) {
	random := rand.New(rand.NewSource(16))
	taken := 0
	for range 40000 {
		if agrees(t, randomFile(random)) {
			taken++
		}
	}
	if taken < 10000 {
		t.Errorf("only %d of the files were taken", taken)
	}
}

func TestRandomTexts(t *testing.T) {
	pieces := []string{"FROM", "from ", "ARG ", "ENV ", "COPY ", "ADD ", "RM ", "MKDIR", "LINK ", "CMD ", "\n", "\n", "\n", "\\\n", "\\", "`", " ", "\t", "\r", "a", "as ", "=", "--from=", "--force ", "--", "<<E ", "\nE\n", "\"", "'", "[", "]", ",", "#", "# escape=`\n", "\u00e9", "\u212a", "\x00", "\xff"}
	random := rand.New(rand.NewSource(61))
	for range 60000 {
		var s strings.Builder
		for range random.Intn(16) {
			s.WriteString(pieces[random.Intn(len(pieces))])
		}
		agrees(t, s.String())
		agrees(t, "FROM a\n"+s.String())
	}
}

// P16.7

// linesOf are the numbers of lines that the file tells, in order.
func linesOf(f api.File) []int {
	var list []int
	for _, step := range f.Args {
		list = append(list, step.Line)
	}
	for _, stage := range f.Stages {
		list = append(list, stage.Line)
		for _, step := range stage.Steps {
			list = append(list, step.Line)
		}
	}
	return list
}

// partsOf are the texts of the file that stand in its words: those that are never empty, and others.
func partsOf(f api.File) (full, others []string) {
	for _, stage := range f.Stages {
		full = append(full, stage.Base)
	}
	for _, step := range stepsOf(&f) {
		full = append(full, step.Words...)
		others = append(others, step.From, step.Mode)
		for _, pair := range step.Pairs {
			others = append(others, pair.Key, pair.Val)
		}
	}
	return full, others
}

func TestLinesRiseAndPartsStand(t *testing.T) {
	random := rand.New(rand.NewSource(167))
	for range 10000 {
		s := randomFile(random)
		f, err := parse.File(s)
		if err != nil {
			continue
		}
		var written []string
		escape, lines, _ := lex.Lines(s)
		known := []int{}
		for _, l := range lines {
			known = append(known, l.Line)
			list, _ := words.Split(l.Text, escape)
			for _, w := range list {
				written = append(written, w.Raw)
			}
		}
		above := 0
		for _, line := range linesOf(f) {
			if line <= above || !slices.Contains(known, line) {
				t.Fatalf("%q: the lines are %v", s, linesOf(f))
			}
			above = line
		}
		full, others := partsOf(f)
		if slices.Contains(full, "") {
			t.Fatalf("%q: one of %q is empty", s, full)
		}
		for _, part := range append(full, others...) {
			if !slices.ContainsFunc(written, func(w string) bool { return strings.Contains(w, part) }) {
				t.Fatalf("%q: %q stands in none of %q", s, part, written)
			}
		}
	}
}

// P16.8

var silentLine = regexp.MustCompile(`^[ \t\r]*(#.*)?$`)

// goesOn tells whether the last line that is neither empty nor a remark ends with the escape.
func goesOn(s string) bool {
	lines := strings.Split(s, "\n")
	for i := len(lines) - 1; i >= 0; i-- {
		if !silentLine.MatchString(lines[i]) {
			return strings.HasSuffix(strings.TrimRight(lines[i], " \t\r"), "\\")
		}
	}
	return false
}

// raised is a step some lines further on.
func raised(step api.Step, by int) api.Step {
	step.Line += by
	step.Docs = slices.Clone(step.Docs)
	for i := range step.Docs {
		step.Docs[i].Line += by
	}
	return step
}

// together are the stages of the one file, and those of the other behind them.
func together(first, second api.File, by int) api.File {
	for _, stage := range second.Stages {
		moved := api.Stage{Line: stage.Line + by, Base: stage.Base, Name: stage.Name}
		for _, step := range stage.Steps {
			moved.Steps = append(moved.Steps, raised(step, by))
		}
		first.Stages = append(first.Stages, moved)
	}
	return first
}

func TestStageByStage(t *testing.T) {
	random := rand.New(rand.NewSource(168))
	list := []string{"FROM a", "FROM a\nRM x \\\n\n# r", "ARG A\nFROM a\n\n\n", "FROM a\nCOPY <<E d\n\\\nE\n", "FROM a\n\\\n  \\\n"}
	for range 400 {
		list = append(list, randomFile(random))
	}
	met := 0
	for _, a := range list {
		first, err := parse.File(a)
		if err != nil || first.Escape != '\\' || goesOn(a) {
			continue
		}
		for _, b := range list {
			second, err := parse.File(b)
			if err != nil || second.Escape != '\\' || len(second.Args) > 0 {
				continue
			}
			met++
			wantFile(t, a+"\n"+b, together(first, second, strings.Count(a, "\n")+1))
		}
	}
	if met < 1000 {
		t.Errorf("only %d files were put together", met)
	}
	half := strings.Repeat("FROM a\n", api.MaxStages/2)
	agrees(t, half+"\n"+half)
	wantFault(t, half+"\n"+half+"FROM a", fault(api.ErrMany, api.MaxStages+2, 1))
}

// P16.9

var firstWord = regexp.MustCompile(`(?m)^[ \t\r]*[A-Za-z]+`)

func TestLettersOfInstructions(t *testing.T) {
	random := rand.New(rand.NewSource(169))
	turn := func(s string) string {
		letters := []byte(s)
		for i, b := range letters {
			if b >= 'A' && random.Intn(2) == 0 {
				letters[i] ^= 'a' - 'A'
			}
		}
		return string(letters)
	}
	for range 20000 {
		s := randomFile(random)
		if random.Intn(3) == 0 {
			s += some(random, "RUN a\n", "FRM\n", "'FROM'\n")
		}
		if strings.ContainsAny(s, "\\`") || strings.Contains(s, "<<") {
			continue
		}
		turned := firstWord.ReplaceAllStringFunc(s, turn)
		f, err := parse.File(s)
		if err == nil {
			wantFile(t, turned, f)
			continue
		}
		var place api.Fault
		errors.As(err, &place)
		wantFault(t, turned, place)
	}
}

// R4, R5

// scrub changes all lists of a step, their spare room too.
func scrub(step *api.Step) {
	for _, list := range [][]string{step.Words, step.Exec} {
		for i := range list[:cap(list)] {
			list[:cap(list)][i] = "gone"
		}
	}
	for i := range step.Pairs[:cap(step.Pairs)] {
		step.Pairs[:cap(step.Pairs)][i] = api.Pair{Key: "gone"}
	}
	for i := range step.Docs[:cap(step.Docs)] {
		step.Docs[:cap(step.Docs)][i] = api.Doc{Name: "gone"}
	}
}

// stepsOf are the steps of a file, in order.
func stepsOf(f *api.File) []*api.Step {
	var list []*api.Step
	for i := range f.Args {
		list = append(list, &f.Args[i])
	}
	for i := range f.Stages {
		for j := range f.Stages[i].Steps {
			list = append(list, &f.Stages[i].Steps[j])
		}
	}
	return list
}

func TestMemory(t *testing.T) {
	one := row("ARG A", "ARG B=c", "ARG C", "FROM a", "ENV A=b C=d E=f", "LABEL A=b C=d E=f", "RM a b c", "LINK a b", "COPY <<E <<F <<E d", "E", "F", "E", "CMD [\"a\",\"b\",\"c\"]", "USER u")
	s := one + strings.ReplaceAll(one, "ARG", "USER")
	first, _ := parse.File(s)
	second, err := parse.File(s)
	if err != nil {
		t.Fatal(err)
	}
	steps, untouched := stepsOf(&first), stepsOf(&second)
	for i, step := range steps {
		scrub(step)
		for j := i + 1; j < len(steps); j++ {
			if !sameStep(*steps[j], *untouched[j]) {
				t.Fatalf("step %d changed with step %d", j, i)
			}
		}
	}
	for i := range first.Stages {
		list := first.Stages[i].Steps
		for j := range list[:cap(list)] {
			list[:cap(list)][j] = api.Step{Line: -1}
		}
		for j := i + 1; j < len(first.Stages); j++ {
			if first.Stages[j].Steps[0].Line < 0 {
				t.Fatalf("the steps of stage %d changed with those of stage %d", j, i)
			}
		}
	}
	clear(first.Args[:cap(first.Args)])
	clear(first.Stages[:cap(first.Stages)])
	wantFile(t, s, second)
	if got := plainFile(s); !sameFile(got.file, second) {
		t.Error("the second answer changed with the first one")
	}
}

// R1: long files end in time.

func TestLongFiles(t *testing.T) {
	for _, x := range instructions {
		for _, part := range []string{"a", " a", " ", "=", " --force", "\\\n", "[", `"`, "'", "\\"} {
			agrees(t, "FROM a\n"+x.word+" "+strings.Repeat(part, 65000/len(part)))
			agrees(t, "FROM a\n"+x.word+strings.Repeat(part, 65000/len(part)))
		}
	}
	agrees(t, strings.Repeat("FROM a\n", 4000))
	agrees(t, "FROM a\nCOPY"+strings.Repeat(" <<E", 4000)+"\n"+strings.Repeat("E\n", 4000))
	agrees(t, "FROM a\n"+strings.Repeat("LINK "+strings.Repeat("a", 50)+" b\n", 512))
}
