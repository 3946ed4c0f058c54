package check_test

import (
	"errors"
	"fmt"
	"math"
	"math/rand"
	"slices"
	"strings"
	"testing"

	"strata/api"
	"strata/check"
	"strata/parse"
	"strata/words"
)

// wantFault fails unless File answers that error at that line: one Fault alone.
func wantFault(t *testing.T, f api.File, no api.Errno, line int) {
	t.Helper()
	err := check.File(f)
	if err == nil {
		t.Fatalf("File(%.600q): nothing is wrong, and %v at %d should be", fmt.Sprint(f), no, line)
	}
	for other := api.ErrArg; other <= api.ErrEmpty; other++ {
		if errors.Is(err, other) != (other == no) {
			t.Fatalf("File(%.600q): the error is %v, not %v", fmt.Sprint(f), err, no)
		}
	}
	met := 0
	for e := err; e != nil; e = errors.Unwrap(e) {
		if fault, is := e.(api.Fault); is {
			met++
			if want := (api.Fault{No: no, Line: line}); fault != want {
				t.Fatalf("File(%.600q): the fault is %v at %d:%d, not %v at %d:0", fmt.Sprint(f), fault.No, fault.Line, fault.At, no, line)
			}
		}
	}
	if met != 1 {
		t.Fatalf("File(%.600q): there are %d faults", fmt.Sprint(f), met)
	}
}

func wantRight(t *testing.T, f api.File) {
	t.Helper()
	if err := check.File(f); err != nil {
		t.Fatalf("File(%.600q): %v", fmt.Sprint(f), err)
	}
}

// agrees fails unless File answers what the second telling does, which it tells.
func agrees(t *testing.T, f api.File) api.Errno {
	t.Helper()
	want := plainFile(f)
	if want.No == api.OK {
		wantRight(t, f)
	} else {
		wantFault(t, f, want.No, want.Line)
	}
	return want.No
}

// of is a file of stages.
func of(stages ...api.Stage) api.File { return api.File{Escape: '\\', Stages: stages} }

// with is a file of one stage, at the line 1, with the steps.
func with(steps ...api.Step) api.File {
	return of(api.Stage{Line: 1, Base: "scratch", Steps: steps})
}

// step is a step at the line 2.
func step(op api.Op, list ...string) api.Step { return api.Step{Op: op, Line: 2, Words: list} }

// pairs is a step at the line 2, of keys and values by turns.
func pairs(op api.Op, texts ...string) api.Step {
	s := api.Step{Op: op, Line: 2}
	for i := 0; i < len(texts); i += 2 {
		s.Pairs = append(s.Pairs, api.Pair{Key: texts[i], Val: texts[i+1]})
	}
	return s
}

// exec is a step at the line 2.
func exec(op api.Op, list ...string) api.Step { return api.Step{Op: op, Line: 2, Exec: list} }

func from(s api.Step, text string) api.Step {
	s.From = text
	return s
}

func chmod(s api.Step, text string) api.Step {
	s.Mode = text
	return s
}

func force(s api.Step) api.Step {
	s.Force = true
	return s
}

func bare(s api.Step) api.Step {
	s.Bare = true
	return s
}

func docs(s api.Step, list ...api.Doc) api.Step {
	s.Docs = list
	return s
}

// wantStep fails unless that is what is wrong with the step; OK: nothing.
func wantStep(t *testing.T, s api.Step, no api.Errno) {
	t.Helper()
	if no == api.OK {
		wantRight(t, with(s))
	} else {
		wantFault(t, with(s), no, 2)
	}
}

// wantSteps fails unless that is what is wrong with each of the steps.
func wantSteps(t *testing.T, no api.Errno, steps ...api.Step) {
	t.Helper()
	for _, s := range steps {
		wantStep(t, s, no)
	}
}

// doc is a document E.
var doc = api.Doc{Name: "E", Text: "x\n"}

// raw is a document E of which nothing is expanded.
var raw = api.Doc{Name: "E", Raw: true, Text: "${"}

// right are steps in which nothing is wrong, at least one of each instruction.
func right() []api.Step {
	return []api.Step{
		pairs(api.OpArg, "A", "x"), bare(pairs(api.OpArg, "A", "")), pairs(api.OpEnv, "A", "x", "_b", `"$A"`), pairs(api.OpLabel, "a/b", "'"+"'"),
		step(api.OpWorkdir, "/d"), step(api.OpCopy, "a", "b"), from(chmod(step(api.OpCopy, "a", "b"), "755"), "s"),
		docs(step(api.OpCopy, "<<E", "a", "<<-'E'", "d"), doc, raw), chmod(step(api.OpAdd, "a", "b"), "7"), force(step(api.OpRm, "x")),
		chmod(step(api.OpMkdir, "d", "e"), "0"), step(api.OpLink, "t", "l"), step(api.OpMode, "7", "a"), step(api.OpUser, "u"),
		step(api.OpExpose, "80", "81/udp"), exec(api.OpCmd, "sh", "'"), exec(api.OpEntrypoint),
	}
}

func TestExamples(t *testing.T) {
	wantRight(t, of(api.Stage{Line: 1, Base: "scratch"}))
	wantRight(t, of(api.Stage{Line: 1, Base: "$A", Name: "b", Steps: []api.Step{from(step(api.OpCopy, "x", "y"), "b")}}))
	wantFault(t, of(), api.ErrShort, 0)
	wantFault(t, api.File{Escape: '/'}, api.ErrArg, 0)
	wantFault(t, of(api.Stage{Line: 1, Base: "scratch", Name: "A"}), api.ErrName, 1)
	wantFault(t, of(api.Stage{Line: 1, Base: "scratch", Name: "scratch"}), api.ErrName, 1)
	wantFault(t, of(api.Stage{Line: 1, Base: "scratch", Name: "a"}, api.Stage{Line: 5, Base: "b", Name: "a"}), api.ErrTwice, 5)
	wantFault(t, of(api.Stage{Line: 1, Base: "'a"}), api.ErrQuote, 1)
	wantFault(t, of(api.Stage{Line: 1, Base: "${"}), api.ErrForm, 1)
	wantSteps(t, api.ErrName, pairs(api.OpEnv, "1A", "x"), pairs(api.OpLabel, "a b", "x"))
	wantStep(t, pairs(api.OpEnv, "A", `"x`), api.ErrQuote)
	wantStep(t, pairs(api.OpLabel, "a/b", "x"), api.OK)
	wantSteps(t, api.ErrShort, step(api.OpCopy, "x"), step(api.OpRm))
	wantSteps(t, api.ErrLong, step(api.OpWorkdir, "x", "y"), pairs(api.OpArg, "A", "", "B", ""))
	copying := step(api.OpCopy, "x", "y")
	wantSteps(t, api.OK, from(copying, "01"), from(copying, "a:b"), chmod(copying, "755"))
	wantStep(t, from(copying, "A"), api.ErrRef)
	wantSteps(t, api.ErrMode, chmod(copying, "8"), chmod(copying, "07777"))
	wantSteps(t, api.ErrFlag, from(step(api.OpRm, "a"), "a"), force(step(api.OpMkdir, "a")))
	wantStep(t, step(api.OpCmd, "a"), api.ErrForm)
	opens := step(api.OpCopy, "<<E", "y")
	other := api.Doc{Name: "F", Text: "x\n"}
	wantStep(t, docs(opens, doc), api.OK)
	wantSteps(t, api.ErrDoc, opens, docs(opens, other), docs(opens, doc, other), docs(opens, raw))
	wantStep(t, docs(step(api.OpCopy, `<<"E"`, "y"), raw), api.OK)
	wantStep(t, docs(opens, api.Doc{Name: "E", Text: "${"}), api.ErrForm)
	wantStep(t, docs(step(api.OpCopy, "x", "<<E"), doc), api.ErrForm)
	wantStep(t, step(api.OpCopy, "<<", "y"), api.ErrDoc)
	wantStep(t, step(api.OpAdd, "<<E", "y"), api.OK)
}

// P18.1

func TestEscape(t *testing.T) {
	for b := range 256 {
		f := with(step(api.OpUser, "u"))
		f.Escape = byte(b)
		if b == '\\' || b == '`' {
			wantRight(t, f)
			continue
		}
		wantFault(t, f, api.ErrArg, 0)
		wantFault(t, api.File{Escape: byte(b)}, api.ErrArg, 0)
		wantFault(t, api.File{Escape: byte(b), Args: []api.Step{{Line: 3}}, Stages: make([]api.Stage, api.MaxStages+1)}, api.ErrArg, 0)
	}
}

func TestEscapeIsTheFiles(t *testing.T) {
	for _, x := range []struct {
		escape byte
		raw    string
		no     api.Errno
	}{{'\\', `\'`, 0}, {'`', "`'", 0}, {'\\', "`'", api.ErrQuote}, {'`', `\'`, api.ErrQuote}, {'\\', `\${`, 0}, {'`', `\${`, api.ErrForm}, {'`', "\"`\"\"", 0}, {'\\', "\"`\"\"", api.ErrQuote}} {
		for _, s := range []api.Step{step(api.OpUser, x.raw), pairs(api.OpArg, "A", x.raw), pairs(api.OpLabel, "A", x.raw), step(api.OpCopy, "a", x.raw)} {
			if wrong := plainStep(s, x.escape); !slices.Equal(wrong, wrongs{x.no}[:min(1, int(x.no))]) {
				t.Fatalf("%q: %v", x.raw, wrong)
			}
			f := with(s)
			f.Escape = x.escape
			agrees(t, f)
			f.Args, f.Stages[0].Steps = f.Stages[0].Steps, nil
			agrees(t, f)
			f.Args, f.Stages[0].Base = nil, x.raw
			agrees(t, f)
		}
	}
	for _, x := range []struct {
		escape byte
		text   string
		no     api.Errno
	}{{'\\', `\${`, 0}, {'`', "`${", 0}, {'\\', "`${", api.ErrForm}, {'`', `\${`, api.ErrForm}} {
		f := with(docs(step(api.OpCopy, "<<E", "a"), api.Doc{Name: "E", Text: x.text}))
		f.Escape = x.escape
		if no := agrees(t, f); no != x.no {
			t.Fatalf("%q: %v", x.text, no)
		}
	}
}

func TestNoStage(t *testing.T) {
	wantFault(t, api.File{Escape: '`', Args: []api.Step{{Line: 3}}}, api.ErrShort, 0)
	wantFault(t, api.File{Escape: '\\', Args: make([]api.Step, api.MaxSteps+1), Stages: []api.Stage{}}, api.ErrShort, 0)
}

func TestTooManyStages(t *testing.T) {
	stages := slices.Repeat([]api.Stage{{Line: 4, Base: "a"}}, api.MaxStages)
	wantRight(t, of(stages...))
	wantFault(t, of(append(stages, api.Stage{Line: 4, Base: "a"})...), api.ErrMany, 0)
	f := of(append(stages, api.Stage{Line: 4})...)
	f.Args = []api.Step{{Line: 3}}
	wantFault(t, f, api.ErrMany, 0)
}

func TestTooManySteps(t *testing.T) {
	users := func(n int) []api.Step { return slices.Repeat([]api.Step{step(api.OpUser, "u")}, n) }
	args := func(n int) []api.Step { return slices.Repeat([]api.Step{pairs(api.OpArg, "A", "")}, n) }
	for _, n := range []int{0, 1, 200, api.MaxSteps} {
		for _, of2 := range []int{0, (api.MaxSteps - n) / 2, api.MaxSteps - n} {
			f := of(api.Stage{Line: 9, Base: "a", Steps: users(of2)}, api.Stage{Line: 9, Base: "b"}, api.Stage{Line: 9, Base: "c", Steps: users(api.MaxSteps - n - of2)})
			f.Args = args(n)
			wantRight(t, f)
			f.Stages[1].Steps = users(1)
			wantFault(t, f, api.ErrMany, 0)
			f.Stages[1].Steps = nil
			f.Args = args(n + 1)
			wantFault(t, f, api.ErrMany, 0)
			f.Args[0].Op = api.OpUser
			wantFault(t, f, api.ErrMany, 0)
		}
	}
}

func TestArgsAreArgs(t *testing.T) {
	for op := api.Op(-1); op <= api.OpEntrypoint+1; op++ {
		s := pairs(api.OpArg, "A", "x")
		s.Op, s.Line = op, 7
		f := of(api.Stage{Line: 9})
		f.Args = []api.Step{pairs(api.OpArg, "A", "x"), s, pairs(api.OpArg, "'", "'")}
		if op == api.OpArg {
			wantFault(t, f, api.ErrName, 2)
		} else {
			wantFault(t, f, api.ErrOp, 7)
			f.Args[1].From = "\xff"
			wantFault(t, f, api.ErrOp, 7)
		}
	}
	for _, s := range right() {
		f := of(api.Stage{Line: 9, Base: "a"})
		f.Args = []api.Step{s}
		if s.Op == api.OpArg {
			wantRight(t, f)
		} else {
			wantFault(t, f, api.ErrOp, 2)
		}
	}
}

func TestInOrder(t *testing.T) {
	wrong := func(line int) api.Step { return api.Step{Op: api.OpUser, Line: line} }
	f := api.File{
		Escape: '`',
		Args:   []api.Step{{Op: api.OpArg, Line: 1}, {Op: api.OpArg, Line: 2}},
		Stages: []api.Stage{{Line: 3, Steps: []api.Step{wrong(4), wrong(5)}}, {Line: 6, Steps: []api.Step{wrong(7)}}, {Line: 8}},
	}
	for line := 1; line <= 8; line++ {
		wantFault(t, f, api.ErrShort, line)
		for i := range f.Args {
			if f.Args[i].Line == line {
				f.Args[i].Pairs = []api.Pair{{Key: "A"}}
			}
		}
		for i := range f.Stages {
			if f.Stages[i].Line == line {
				f.Stages[i].Base = "a"
			}
			for k := range f.Stages[i].Steps {
				if f.Stages[i].Steps[k].Line == line {
					f.Stages[i].Steps[k].Words = []string{"u"}
				}
			}
		}
	}
	wantRight(t, f)
}

func TestLinesAreToldAsTheyStand(t *testing.T) {
	for _, line := range []int{0, 1, -1, 17, math.MaxInt, math.MinInt} {
		wantFault(t, of(api.Stage{Line: line}), api.ErrShort, line)
		wantFault(t, with(api.Step{Line: line}), api.ErrOp, line)
		f := of(api.Stage{Line: 3, Base: "a"})
		f.Args = []api.Step{{Line: line}}
		wantFault(t, f, api.ErrOp, line)
		wantFault(t, with(api.Step{Line: line, Op: api.OpCopy, Words: []string{"<<E", "d"}, Docs: []api.Doc{{Name: "E", Line: 5, Text: "${"}}}), api.ErrForm, line)
	}
}

// P18.2

// noText are texts that aren't UTF-8.
var noText = []string{"\xff", "a\x80", "\xc3", "\xc0\x80", "\xe0\x80\x80", "\xed\xa0\x80", "\xf4\x90\x80\x80", "\xf0\x8f\xbf\xbf", "é\xc3(", "'\xff", "${\xff"}

func TestStage(t *testing.T) {
	stage := func(base, name string) api.File {
		return of(api.Stage{Line: 1, Base: "x", Name: "taken", Steps: right()}, api.Stage{Line: 5, Base: base, Name: name, Steps: []api.Step{{Line: 6}}})
	}
	for _, text := range noText {
		wantFault(t, stage(text, ""), api.ErrText, 5)
		wantFault(t, stage("a", text), api.ErrText, 5)
		wantFault(t, stage("", text), api.ErrText, 5)
		wantFault(t, stage("'", text), api.ErrText, 5)
	}
	wantFault(t, stage("", ""), api.ErrShort, 5)
	wantFault(t, stage("", "A"), api.ErrShort, 5)
	wantFault(t, stage("", "taken"), api.ErrShort, 5)
	for _, base := range []string{"'", `"`, `"\"`, `${A:-"`, "a'"} {
		wantFault(t, stage(base, "A"), api.ErrQuote, 5)
		wantFault(t, stage(base, "taken"), api.ErrQuote, 5)
	}
	for _, base := range []string{"${", "${A", "${}", "${1}", "a${A:}", "${A:-b", "${A:-'b'", "${A:-${}'"} {
		wantFault(t, stage(base, "A"), api.ErrForm, 5)
	}
	wantFault(t, stage("a", "A"), api.ErrName, 5)
	wantFault(t, stage("a", "taken"), api.ErrTwice, 5)
	for _, base := range []string{"a", "scratch", "A b", "''", "$A", "${A:-'b'}", "é", "\x00", "<<E", "taken", "a:b:c", strings.Repeat("a", api.MaxValue+1)} {
		wantFault(t, stage(base, "other"), api.ErrOp, 6)
		wantFault(t, stage(base, ""), api.ErrOp, 6)
	}
}

func TestStagesTwice(t *testing.T) {
	stages := func(names ...string) api.File {
		var list []api.Stage
		for i, name := range names {
			list = append(list, api.Stage{Line: 10 + i, Base: "b", Name: name})
		}
		return of(list...)
	}
	wantRight(t, stages("a", "", "b", "", "aa", "a.", ""))
	wantFault(t, stages("a", "", "b", "c", "a", "c"), api.ErrTwice, 14)
	wantFault(t, stages("a", "a", "A"), api.ErrTwice, 11)
	wantFault(t, stages("", "b", "", "b"), api.ErrTwice, 13)
	wantFault(t, stages("a", "A", "a"), api.ErrName, 11)
}

// eachByte hands on texts in which each of the 256 bytes stands alone, ahead of, between and behind others.
func eachByte(others string, f func(s string)) {
	for b := range 256 {
		c := string([]byte{byte(b)})
		for _, s := range []string{c, c + others, others + c, others + c + others} {
			f(s)
		}
	}
}

func TestStageNames(t *testing.T) {
	name := func(s string) api.File { return of(api.Stage{Line: 5, Base: "b", Name: s}) }
	eachByte("a", func(s string) { agrees(t, name(s)) })
	for _, s := range []string{"a", "z", "a0", "a-", "a_", "a.", "a-b_c.d9", "scratch0", "scratc", "s", strings.Repeat("a", api.MaxName), "a" + strings.Repeat(".", api.MaxName-1)} {
		wantRight(t, name(s))
	}
	for _, s := range []string{"scratch", "A", "aB", "0", "0a", "-a", "_a", ".a", "a b", "a/b", "a:b", "é", "aé", "a\n", "a\x00", strings.Repeat("a", api.MaxName+1), "$A", `"a"`} {
		wantFault(t, name(s), api.ErrName, 5)
	}
}

// P18.3

func TestOps(t *testing.T) {
	for op := api.Op(-2); op <= api.OpEntrypoint+3; op++ {
		for _, s := range right() {
			s.Op = op
			no := agrees(t, with(s))
			if known := op >= api.OpArg && op <= api.OpEntrypoint; known == (no == api.ErrOp) {
				t.Fatalf("%d: %v", op, no)
			}
		}
	}
	wantSteps(t, api.ErrOp, api.Step{Line: 2, From: "\xff", Force: true, Bare: true}, api.Step{Op: math.MaxInt, Line: 2}, api.Step{Op: math.MinInt, Line: 2})
	for _, s := range right() {
		wantStep(t, s, api.OK)
	}
}

func TestTexts(t *testing.T) {
	for _, text := range noText {
		for op := api.OpArg; op <= api.OpEntrypoint; op++ {
			wantSteps(t, api.ErrText, from(step(op), text), chmod(step(op), text), pairs(op, "A", "", text, ""), pairs(op, "A", "", "A", text),
				step(op, "a", text), step(op, text), exec(op, "a", text), docs(step(op), doc, api.Doc{Name: text}), docs(step(op), doc, api.Doc{Name: "E", Raw: true, Text: text}))
		}
	}
	for _, text := range []string{"é", "\u07ff\u0800", "\uffff", "\U00010000", "\U0010ffff", "\ud7ff\ue000", "\ufffd", "\x00\x7f"} {
		wantSteps(t, api.OK, step(api.OpUser, text), pairs(api.OpEnv, "A", text), exec(api.OpCmd, text), docs(step(api.OpCopy, "<<E", "a"), api.Doc{Name: "E", Text: text}))
	}
}

func TestFlags(t *testing.T) {
	for _, s := range right() {
		for _, text := range []string{"a", "7", "'", " "} {
			if s.Op != api.OpCopy {
				wantStep(t, from(s, text), api.ErrFlag)
			}
			if s.Op != api.OpCopy && s.Op != api.OpAdd && s.Op != api.OpMkdir {
				wantStep(t, chmod(s, text), api.ErrFlag)
			}
		}
		if s.Op != api.OpRm {
			wantStep(t, force(s), api.ErrFlag)
		}
		agrees(t, with(from(s, "a")))
		agrees(t, with(chmod(s, "7")))
		agrees(t, with(force(s)))
	}
	wantStep(t, from(bare(exec(api.OpRm, "a")), "a"), api.ErrFlag)
	wantStep(t, chmod(docs(step(api.OpUser), doc), "7"), api.ErrFlag)
	wantStep(t, force(step(api.OpAdd)), api.ErrFlag)
}

func TestFields(t *testing.T) {
	one := map[string]func(s api.Step) api.Step{
		"pairs": func(s api.Step) api.Step { s.Pairs = pairs(api.OpEnv, "A", "").Pairs; return s },
		"words": func(s api.Step) api.Step { s.Words = []string{"a"}; return s },
		"docs":  func(s api.Step) api.Step { s.Docs = []api.Doc{raw}; return s },
		"exec":  func(s api.Step) api.Step { s.Exec = []string{"a"}; return s },
		"bare":  bare,
	}
	for _, s := range right() {
		for field, put := range one {
			if strings.Contains(rules[s.Op].has, field) {
				agrees(t, with(put(s)))
				continue
			}
			wantStep(t, put(s), api.ErrForm)
			s.Pairs, s.Words, s.Exec, s.Docs, s.Bare = nil, nil, nil, nil, false
			wantStep(t, put(s), api.ErrForm)
		}
	}
	wantStep(t, bare(pairs(api.OpArg, "A", "x")), api.ErrForm)
	wantStep(t, bare(pairs(api.OpArg, "A", "", "1", "x")), api.ErrForm)
	wantStep(t, bare(pairs(api.OpArg, "A", "", "1", "")), api.ErrLong)
	wantStep(t, bare(pairs(api.OpArg)), api.ErrShort)
	wantStep(t, bare(pairs(api.OpArg, "1", "")), api.ErrName)
}

func TestCounts(t *testing.T) {
	for op, its := range rules {
		for n := range api.MaxWords + 6 {
			s := step(op, slices.Repeat([]string{"a"}, n)...)
			switch {
			case strings.Contains(its.has, "pairs"):
				s = pairs(op, slices.Repeat([]string{"a", ""}, n)...)
			case strings.Contains(its.has, "exec"):
				s = exec(op, slices.Repeat([]string{"a"}, n)...)
			}
			agrees(t, with(s))
		}
	}
	for _, n := range []int{api.MaxWords, api.MaxWords + 1} {
		list := slices.Repeat([]string{"a"}, n)
		no := []api.Errno{api.OK, api.ErrMany}[n-api.MaxWords]
		wantSteps(t, no, step(api.OpCopy, list...), step(api.OpAdd, list...), step(api.OpMode, list...), step(api.OpRm, list...), step(api.OpMkdir, list...),
			step(api.OpExpose, list...), pairs(api.OpEnv, slices.Repeat(list, 2)...), pairs(api.OpLabel, slices.Repeat(list, 2)...), exec(api.OpCmd, list...), exec(api.OpEntrypoint, list...))
		wantSteps(t, api.ErrLong, step(api.OpWorkdir, list...), step(api.OpUser, list...), step(api.OpLink, list...), pairs(api.OpArg, slices.Repeat(list, 2)...))
	}
	wantSteps(t, api.ErrShort, pairs(api.OpArg), pairs(api.OpEnv), pairs(api.OpLabel), step(api.OpWorkdir), step(api.OpUser), step(api.OpLink), step(api.OpLink, "a"),
		step(api.OpCopy), step(api.OpCopy, "a"), step(api.OpAdd, "a"), step(api.OpMode, "a"), step(api.OpRm), step(api.OpMkdir), step(api.OpExpose))
	wantSteps(t, api.ErrLong, pairs(api.OpArg, "A", "", "B", ""), step(api.OpWorkdir, "a", "b"), step(api.OpUser, "a", "b"), step(api.OpLink, "a", "b", "c"))
	wantSteps(t, api.OK, exec(api.OpCmd), exec(api.OpEntrypoint), step(api.OpUser, ""))
	many := slices.Repeat([]string{"'"}, api.MaxWords+1)
	wantStep(t, from(chmod(step(api.OpCopy, many...), "8"), "A"), api.ErrMany)
	wantStep(t, from(chmod(step(api.OpCopy, "<<"), "8"), "A"), api.ErrShort)
}

func TestFroms(t *testing.T) {
	copying := func(s string) api.Step { return from(step(api.OpCopy, "a", "b"), s) }
	eachByte("a", func(s string) { agrees(t, with(copying(s))) })
	eachByte("0", func(s string) { agrees(t, with(copying(s))) })
	eachByte("a:b", func(s string) { agrees(t, with(copying(s))) })
	long := strings.Repeat("a", api.MaxName)
	for _, s := range []string{"0", "01", "00000", strings.Repeat("9", 1000), "a", "a-", "a.", "a_", long, "a/b:c", "0/a", "0a", "a:1", "a0:_", "scratch/a", "scratch-", long[7:], "0" + long[8:]} {
		wantStep(t, copying(s), api.OK)
	}
	for _, s := range []string{"A", "a:", ":", "-1", "+1", "1.", "1 ", " 1", "0x1:", "scratch", "scratch:1", "scratch:latest", long + "a", long + ":a", "0" + long[7:], "$A", "${A}", `"a"`, "'a'", "a@b", "é", "٣", "a:b:c", "/a", "a/", "01:"} {
		wantStep(t, copying(s), api.ErrRef)
		wantStep(t, chmod(copying(s), "8"), api.ErrRef)
	}
}

func TestModes(t *testing.T) {
	for _, s := range []api.Step{step(api.OpCopy, "a", "b"), step(api.OpAdd, "a", "b"), step(api.OpMkdir, "a")} {
		for _, others := range []string{"7", "0", "77", "000", "7777"} {
			eachByte(others, func(text string) { agrees(t, with(chmod(s, text))) })
		}
		for _, text := range []string{"0", "7", "00", "755", "0755", "7777", "0000"} {
			wantStep(t, chmod(s, text), api.OK)
		}
		for _, text := range []string{"8", "78", "00000", "07777", "-1", "+7", "0o7", "7 ", "u+x", "$M", `"7"`, "７"} {
			wantStep(t, chmod(s, text), api.ErrMode)
			s.Words[0] = "'"
			wantStep(t, chmod(s, text), api.ErrMode)
			s.Words[0] = "a"
		}
	}
}

func TestKeys(t *testing.T) {
	for _, op := range []api.Op{api.OpArg, api.OpEnv, api.OpLabel} {
		eachByte("a", func(s string) { agrees(t, with(pairs(op, s, ""))) })
		for _, s := range []string{"a", "Z", "aZ9", "_a", "a_", "A" + strings.Repeat("b", 1000)} {
			wantStep(t, pairs(op, s, "x"), api.OK)
		}
		for _, s := range []string{"", " ", "a b", "a=b", "$a", "'a'", "é", "a\x00", "a\n", "a:b", "a@", "\u212a"} {
			wantStep(t, pairs(op, s, "'"), api.ErrName)
		}
	}
	for _, s := range []string{"9", "1a", "-", "a-b", ".", "a.b", "/", "a/b", "a/"} {
		wantStep(t, pairs(api.OpLabel, s, "x"), api.OK)
		wantSteps(t, api.ErrName, pairs(api.OpEnv, s, "x"), pairs(api.OpArg, s, "x"), bare(pairs(api.OpArg, s, "")))
	}
	wantStep(t, pairs(api.OpEnv, "A", "'", "1", ""), api.ErrQuote)
	wantStep(t, pairs(api.OpEnv, "A", "x", "1", "'"), api.ErrName)
	wantStep(t, pairs(api.OpLabel, "A", "${", "A", "'"), api.ErrForm)
	wantStep(t, pairs(api.OpEnv, "A", "x", "A", "y", "B", `"`), api.ErrQuote)
}

// wrongWords are words that can't be expanded, and others that can.
var wrongWords = []struct {
	raw string
	no  api.Errno
}{
	{"'", api.ErrQuote}, {`a"`, api.ErrQuote}, {`"\"`, api.ErrQuote}, {`"$A`, api.ErrQuote}, {`${A:-"b`, api.ErrQuote}, {"${", api.ErrForm}, {"a${A", api.ErrForm},
	{"${1}", api.ErrForm}, {"${}", api.ErrForm}, {"${A:}", api.ErrForm}, {"${A-b}", api.ErrForm}, {`"${A`, api.ErrForm}, {"${A:-'}'", api.ErrForm}, {"${A:-${}'", api.ErrForm},
	{"", 0}, {"a", 0}, {"$", 0}, {"$A", 0}, {"${A:+'b'}", 0}, {`\`, 0}, {"a}", 0}, {"''", 0}, {"a b", 0}, {"\n", 0}, {"<", 0}, {`\<<E`, 0}, {`"<<E"`, 0}, {"a<<E", 0}, {"--from=x", 0},
}

func TestWrongWords(t *testing.T) {
	for _, x := range wrongWords {
		for op, its := range rules {
			if !strings.Contains(its.has, "words") {
				continue
			}
			list := []string{x.raw, "a"}
			if op == api.OpWorkdir || op == api.OpUser {
				list = list[:1]
			}
			wantStep(t, step(op, list...), x.no)
			slices.Reverse(list)
			wantStep(t, step(op, list...), x.no)
		}
		wantSteps(t, x.no, pairs(api.OpArg, "A", x.raw), pairs(api.OpEnv, "A", "", "B", x.raw), pairs(api.OpLabel, "A", x.raw, "B", ""))
		wantSteps(t, api.OK, exec(api.OpCmd, x.raw), exec(api.OpEntrypoint, "a", x.raw))
	}
	wantStep(t, step(api.OpRm, "a", "${", "'"), api.ErrForm)
	wantStep(t, step(api.OpRm, "a", "'", "${"), api.ErrQuote)
	for _, list := range [][]string{{"<<E", "<<"}, {"<<", "<<E"}, {"<<'", "a"}} {
		wantSteps(t, api.ErrDoc, step(api.OpCopy, list...))
		no := api.OK
		if list[0] == "<<'" {
			no = api.ErrQuote
		}
		wantSteps(t, no, step(api.OpAdd, list...), step(api.OpRm, list...), step(api.OpMkdir, list...), step(api.OpLink, list...), step(api.OpMode, list...), step(api.OpExpose, list...))
	}
}

// A word or document that is too long only once it is expanded, or is so by itself, is none of this layer's.
func TestLongTexts(t *testing.T) {
	long := strings.Repeat("a", api.MaxValue+1)
	wantSteps(t, api.OK, step(api.OpUser, long), pairs(api.OpEnv, "A", long), docs(step(api.OpCopy, "<<E", "a"), api.Doc{Name: "E", Text: long}), docs(step(api.OpCopy, "<<'E'", "a"), api.Doc{Name: "E", Raw: true, Text: long}), exec(api.OpCmd, long))
	wantSteps(t, api.ErrQuote, step(api.OpUser, long+"'"), pairs(api.OpEnv, "A", long+`"`))
	wantSteps(t, api.ErrForm, step(api.OpUser, long+"${"), docs(step(api.OpCopy, "<<E", "a"), api.Doc{Name: "E", Text: long + "${"}))
	wantRight(t, of(api.Stage{Line: 1, Base: long}))
}

func TestOpenings(t *testing.T) {
	name := strings.Repeat("E_9", 32)
	for _, x := range []struct {
		word, name string
		raw        bool
	}{
		{"<<E", "E", false}, {"<<-E", "E", false}, {`<<"E"`, "E", true}, {"<<'E'", "E", true}, {`<<-"E"`, "E", true}, {"<<-'E'", "E", true}, {"<<0", "0", false}, {"<<_", "_", false},
		{"<<z9_A", "z9_A", false}, {"<<" + name, name, false}, {"<<-'" + name + "'", name, true},
	} {
		copying := step(api.OpCopy, x.word, "a")
		right := api.Doc{Name: x.name, Raw: x.raw, Text: "x\n", Line: 7}
		wantStep(t, docs(copying, right), api.OK)
		for _, wrong := range []api.Doc{{Name: x.name, Raw: !x.raw}, {Name: x.name + "a", Raw: x.raw}, {Name: "", Raw: x.raw}, {Name: strings.ToLower(x.name) + "x", Raw: x.raw}} {
			wantStep(t, docs(copying, wrong), api.ErrDoc)
		}
		wantSteps(t, api.ErrDoc, copying, docs(copying, right, right), docs(step(api.OpCopy, "a", x.word, x.word, "b"), right), docs(step(api.OpCopy, "a", "b"), right))
		wantStep(t, docs(step(api.OpCopy, x.word, "a", x.word, "b"), right, right), api.OK)
		wantSteps(t, api.ErrForm, docs(step(api.OpCopy, "a", x.word), right), step(api.OpCopy, "a", x.word), docs(step(api.OpCopy, x.word, x.word), right, right))
	}
	for _, word := range []string{"<<", "<<-", "<<--E", "<<- E", "<< E", "<<<E", `<<"E`, `<<E"`, "<<'E", `<<"E'`, `<<"`, "<<'", `<<""`, "<<''", "<<-''", `<<"'E'"`, "<<E-F", "<<E F", `<<\E`, "<<$E", "<<${E}", "<<é", "<<E\x00", "<<" + name + "a", "<<'" + name + "a'", `<<E""`, `<<"E""F"`, "<<'a b'", "<<${", "<<E\n"} {
		for _, doc := range []api.Doc{{Name: strings.Trim(word, `<-"'`)}, {Name: strings.Trim(word, `<-"'`), Raw: true}, {}, {Raw: true}, {Name: word[2:]}, {Name: word[2:], Raw: true}} {
			wantStep(t, docs(step(api.OpCopy, word, "a"), doc), api.ErrDoc)
		}
		wantStep(t, docs(step(api.OpCopy, "a", word), doc), api.ErrForm)
	}
	eachByte("E", func(s string) {
		for _, word := range []string{"<<" + s, "<<-" + s, `<<"` + s + `"`, "<<'" + s + "'"} {
			for _, isRaw := range []bool{false, true} {
				agrees(t, with(docs(step(api.OpCopy, word, "a"), api.Doc{Name: s, Raw: isRaw})))
			}
		}
	})
}

func TestWordsInOrder(t *testing.T) {
	wantStep(t, docs(step(api.OpCopy, "'", "<<", "a")), api.ErrQuote)
	wantStep(t, docs(step(api.OpCopy, "<<", "'", "a")), api.ErrDoc)
	wantStep(t, docs(step(api.OpCopy, "<<E", "'", "a"), doc, doc), api.ErrQuote)
	wantStep(t, docs(step(api.OpCopy, "<<E", "a", "<<"), doc), api.ErrForm)
	wantStep(t, docs(step(api.OpCopy, "<<E", "<<F", "a"), doc, doc), api.ErrDoc)
	wantStep(t, docs(step(api.OpCopy, "<<E", "<<F", "a"), api.Doc{Name: "F"}, doc), api.ErrDoc)
	wrong := api.Doc{Name: "E", Text: "${"}
	quoting := api.Doc{Name: "F", Text: "${C:-'}"}
	wantStep(t, docs(step(api.OpCopy, "<<E", "'"), wrong), api.ErrQuote)
	wantStep(t, docs(step(api.OpCopy, "<<E", "a"), wrong, doc), api.ErrDoc)
	wantStep(t, docs(step(api.OpCopy, "<<E", "<<F", "a"), wrong, quoting), api.ErrForm)
	wantStep(t, docs(step(api.OpCopy, "<<F", "<<E", "a"), quoting, wrong), api.ErrQuote)
	wantStep(t, docs(step(api.OpCopy, "<<'E'", "<<F", "a"), raw, quoting), api.ErrQuote)
}

func TestDocuments(t *testing.T) {
	for _, x := range []struct {
		text string
		no   api.Errno
	}{
		{"", 0}, {"x\n", 0}, {"'\n", 0}, {`"`, 0}, {"$", 0}, {"$A'", 0}, {"${A}", 0}, {"${A:-'}'}", 0}, {`\${`, 0}, {`\`, 0}, {"}", 0},
		{"${", api.ErrForm}, {"${1}", api.ErrForm}, {"'${'", api.ErrForm}, {`\\${`, api.ErrForm}, {`\x${A`, api.ErrForm}, {"${A:-'}", api.ErrQuote}, {"x\n${A:+\"\n", api.ErrQuote},
	} {
		wantStep(t, docs(step(api.OpCopy, "<<E", "a"), api.Doc{Name: "E", Text: x.text}), x.no)
		wantStep(t, docs(step(api.OpCopy, "<<'E'", "a"), api.Doc{Name: "E", Raw: true, Text: x.text}), api.OK)
	}
}

// changes are ways to change a step, most of which make something wrong.
func changes() []func(*api.Step) {
	var list []func(*api.Step)
	for _, op := range []api.Op{-1, 0, 1, 2, 3, 4, 5, 6, 7, 8, 9, 10, 11, 12, 13, 14, 15} {
		list = append(list, func(s *api.Step) { s.Op = op })
	}
	for _, text := range []string{"", "s", "01", "A", "a:b", "\xff", "7", "scratch"} {
		list = append(list, func(s *api.Step) { s.From = text }, func(s *api.Step) { s.Mode = text })
	}
	list = append(list, func(s *api.Step) { s.Force = !s.Force }, func(s *api.Step) { s.Bare = !s.Bare })
	for _, text := range []string{"", "a", "1", "'", "${", "<<", "<<E", "<<'E'", "<<-E", "\xff"} {
		list = append(list,
			func(s *api.Step) { s.Words = append(slices.Clone(s.Words), text) },
			func(s *api.Step) { s.Words = append([]string{text}, s.Words...) },
			func(s *api.Step) { s.Exec = append(slices.Clone(s.Exec), text) },
			func(s *api.Step) { s.Pairs = append(slices.Clone(s.Pairs), api.Pair{Key: text}) },
			func(s *api.Step) { s.Pairs = append(slices.Clone(s.Pairs), api.Pair{Key: "A", Val: text}) },
		)
	}
	for _, d := range []api.Doc{doc, raw, {Name: "F"}, {Name: "E", Text: "${"}, {Name: "E", Text: "\xff"}, {Name: "E", Text: "${C:-'}"}, {Name: "\xff"}} {
		list = append(list, func(s *api.Step) { s.Docs = append(slices.Clone(s.Docs), d) })
	}
	return append(list,
		func(s *api.Step) { s.Words = nil }, func(s *api.Step) { s.Words = slices.Repeat([]string{"a"}, api.MaxWords+1) },
		func(s *api.Step) { s.Exec = nil }, func(s *api.Step) { s.Exec = slices.Repeat([]string{"a"}, api.MaxWords+1) },
		func(s *api.Step) { s.Pairs = nil }, func(s *api.Step) { s.Pairs = slices.Repeat([]api.Pair{{Key: "A"}}, api.MaxWords+1) },
		func(s *api.Step) { s.Docs = nil },
	)
}

// met counts errors; few tells those of a step that were met less often than n times.
type met map[api.Errno]int

func (m met) few(n int) []api.Errno {
	var list []api.Errno
	for _, no := range []api.Errno{0, api.ErrOp, api.ErrText, api.ErrFlag, api.ErrForm, api.ErrShort, api.ErrLong, api.ErrMany, api.ErrRef, api.ErrMode, api.ErrName, api.ErrQuote, api.ErrDoc} {
		if m[no] < n {
			list = append(list, no)
		}
	}
	return list
}

func TestTwoChangesOfEachStep(t *testing.T) {
	all, count := changes(), met{}
	for _, s := range right() {
		for _, first := range all {
			for _, second := range all {
				changed := s
				first(&changed)
				second(&changed)
				count[agrees(t, with(changed))]++
			}
		}
	}
	if few := count.few(40); len(few) > 0 {
		t.Errorf("hardly met: %v of %v", few, count)
	}
}

// randomStep is a step at a line, with some changes.
func randomStep(random *rand.Rand, line int, all []func(*api.Step), most int) api.Step {
	list := right()
	s := list[random.Intn(len(list))]
	s.Line = line
	for range random.Intn(most + 1) {
		all[random.Intn(len(all))](&s)
	}
	return s
}

func TestRandomSteps(t *testing.T) {
	random, all, count := rand.New(rand.NewSource(181)), changes(), met{}
	for range 150000 {
		s := randomStep(random, random.Intn(9), all, 7)
		f := with(s)
		f.Escape = "\\`"[random.Intn(2)]
		count[agrees(t, f)]++
	}
	if few := count.few(40); len(few) > 0 {
		t.Errorf("hardly met: %v of %v", few, count)
	}
}

// randomFile is a file in which now and then something is wrong.
func randomFile(random *rand.Rand, all []func(*api.Step)) api.File {
	line := 0
	next := func() int {
		line += 1 + random.Intn(3)
		return line
	}
	some := func(list ...string) string { return list[random.Intn(len(list))] }
	changed := func() []func(*api.Step) {
		if random.Intn(8) > 0 {
			return []func(*api.Step){func(*api.Step) {}}
		}
		return all
	}
	f := api.File{Escape: "\\\\\\\\\\```````x"[random.Intn(13)]}
	for range random.Intn(3) {
		if s := randomStep(random, next(), changed(), 1); s.Op == api.OpArg || random.Intn(20) == 0 {
			f.Args = append(f.Args, s)
		}
	}
	for range random.Intn(5) {
		s := api.Stage{Line: next(), Base: some("a", "$A", "scratch", "'b c'", "a"), Name: some("", "", "a", "b", "c", "d")}
		if random.Intn(15) == 0 {
			s.Base, s.Name = some("", "'", "${", "\xff", "a"), some("", "A", "scratch", "\xff")
		}
		for range random.Intn(4) {
			s.Steps = append(s.Steps, randomStep(random, next(), changed(), 1))
		}
		f.Stages = append(f.Stages, s)
	}
	return f
}

func TestRandomFiles(t *testing.T) {
	random, all, count := rand.New(rand.NewSource(182)), changes(), met{}
	for range 60000 {
		count[agrees(t, randomFile(random, all))]++
	}
	if few := count.few(5); len(few) > 0 || count[0] < 5000 || count[api.ErrTwice] < 500 || count[api.ErrArg] < 500 {
		t.Errorf("hardly met: %v of %v", few, count)
	}
}

// What was parsed is wrong only in what parse doesn't look at.
func TestParsedFiles(t *testing.T) {
	random, count := rand.New(rand.NewSource(183)), met{}
	some := func(list ...string) string { return list[random.Intn(len(list))] }
	word := func() string {
		return some("a", "a", "a", "a", "$A", "${A}", "${", "'x y'", `"y"`, "<<", `\'`, "b:c", "''")
	}
	pair := func() string { return some("A", "_a", "B1", "1", "a/b", "A-") + "=" + word() }
	copying := func() string {
		line := "COPY " + some("", "", "--from=a ", "--from=0 ", "--from=A ", "--from=b:1 ") + some("", "", "--chmod=7 ", "--chmod=8 ")
		return line + some(word()+" a", word()+" a", "<<E a\nx$\nE", "<<-'E' a\n${\nE", "<<E a <<F b\n$A'\nE\n${A:-'}\nF")
	}
	lines := []func() string{
		func() string { return "FROM " + word() + some("", " AS a", " as a", " as A", " AS scratch", " AS 1") },
		func() string { return "ARG " + some("A", "1", pair(), pair()) },
		func() string { return some("ENV ", "LABEL ") + pair() + some("", " ") + pair() },
		func() string { return some("WORKDIR ", "USER ", "RM ", "RM --force ", "EXPOSE ") + word() },
		func() string { return some("LINK ", "MODE ", "ADD ", "ADD --chmod=x ") + word() + " " + word() },
		func() string { return "MKDIR " + some("", "--mode=1 ", "--mode=12345 ") + word() },
		func() string { return `CMD ["'"]` },
		copying, copying,
	}
	for range 60000 {
		s := some("", "# escape=`\n", "ARG A\n") + "FROM scratch\n"
		for range random.Intn(5) {
			s += lines[random.Intn(len(lines))]() + "\n"
		}
		if f, err := parse.File(s); err == nil {
			count[agrees(t, f)]++
		}
	}
	for no, n := range count {
		switch no {
		case api.ErrRef, api.ErrMode, api.ErrName, api.ErrTwice, api.ErrQuote, api.ErrForm, api.OK:
			if n < 100 {
				t.Errorf("%v was met only %d times", no, n)
			}
		default:
			t.Errorf("%v was met %d times", no, n)
		}
	}
	if len(count) != 7 {
		t.Errorf("met are only %v", count)
	}
}

// A word that was quoted is never wrong.
func TestQuotedWords(t *testing.T) {
	eachText([]string{"'", `"`, "$", "{", "}", ":-", "A", `\`, "`", " ", "<<E"}, 4, func(s string) {
		f := with(step(api.OpUser, words.Quote(s, '\\')), pairs(api.OpEnv, "A", words.Quote(s, '\\')))
		wantRight(t, f)
		f = with(step(api.OpUser, words.Quote(s, '`')))
		f.Escape = '`'
		wantRight(t, f)
	})
}

// eachText hands on all rows of up to most pieces.
func eachText(pieces []string, most int, f func(s string)) {
	f("")
	if most == 0 {
		return
	}
	for _, piece := range pieces {
		eachText(pieces, most-1, func(s string) { f(piece + s) })
	}
}

// P18.4

// wantRef fails unless Ref tells whether the text is a reference.
func wantRef(t *testing.T, s string, is bool) {
	t.Helper()
	err := check.Ref(s)
	if (err == nil) != is {
		t.Fatalf("Ref(%.200q): %v", s, err)
	}
	for no := api.ErrArg; no <= api.ErrEmpty; no++ {
		if errors.Is(err, no) != (!is && no == api.ErrRef) {
			t.Fatalf("Ref(%.200q): the error is %v", s, err)
		}
	}
	if fault := (api.Fault{}); errors.As(err, &fault) {
		t.Fatalf("Ref(%.200q) tells a place", s)
	}
}

func TestRefs(t *testing.T) {
	for _, s := range []string{"a", "a/b.c-d_e:1.0", "0", "a:_x", "scratch/a", "a/scratch", "a/scratch:1", "scratch0", "scratc", "a:scratch", "a:A-z.9_", "a:0", "a--b", "a..b", "a.-_b", "0/1/2", "a:latest", "localhost/a"} {
		wantRef(t, s, true)
	}
	for _, s := range []string{"", "A", "a/", "/a", "-a", "a.", "a//b", "a:", "a:.x", "a:b:c", "scratch", "scratch:1", "a b", ":", ":a", "/", "a:-x", "a/:b", "a:/b", "a:b/c", "aB", "é", "a:é", "a\n", "a:b\n", "\na", "a@b", "a\x00", "\xff", "_a", ".a", "a-", "a_", "a/-b", "a-/b", "a:b ", "$A", "a::b", "scratch:", "scratch:latest"} {
		wantRef(t, s, false)
	}
}

func TestBytesOfRefs(t *testing.T) {
	for _, others := range []string{"a", "a/b", "a:b", "0", "a:_"} {
		eachByte(others, func(s string) { wantRef(t, s, plainRef(s)) })
	}
}

func TestAllShortRefs(t *testing.T) {
	count := 0
	eachText([]string{"a", "9", "Z", "-", ".", "_", "/", ":"}, 5, func(s string) {
		is := plainRef(s)
		wantRef(t, s, is)
		if is {
			count++
		}
	})
	eachText([]string{"scratch", "a", "/", ":", ".", "1"}, 5, func(s string) { wantRef(t, s, plainRef(s)) })
	if count < 1000 {
		t.Errorf("only %d are references", count)
	}
}

func TestLongRefs(t *testing.T) {
	for n := 80; n < 110; n++ {
		name := strings.Repeat("a", n)
		wantRef(t, name, n <= 89)
		wantRef(t, strings.Repeat("a/", n/2)+"a", n/2*2+1 <= 89)
		wantRef(t, name+":latest", n <= 89)
		wantRef(t, name+":12345", n <= 90)
		wantRef(t, name+":x", n <= 94)
		wantRef(t, "x:"+name, n <= 94)
	}
	wantRef(t, strings.Repeat("a", 89), true)
	wantRef(t, strings.Repeat("a", 90), false)
	wantRef(t, strings.Repeat("a", 90)+":12345", true)
	wantRef(t, strings.Repeat("a", 1<<22), false)
	wantRef(t, strings.Repeat("a/", 1<<22), false)
	wantRef(t, strings.Repeat(":", 1<<22), false)
}

// P18.5

// What is wrong with a step is the same behind other stages.
func TestStepBehindStages(t *testing.T) {
	random, all := rand.New(rand.NewSource(185)), changes()
	tried := 0
	for tried < 4000 {
		f := randomFile(random, all)
		if f.Escape == 'x' || plainFile(f).No != api.OK {
			continue
		}
		tried++
		s := randomStep(random, 1000, all, 3)
		alone := api.File{Escape: f.Escape, Stages: []api.Stage{{Base: "a", Steps: []api.Step{s}}}}
		last := len(f.Stages) - 1
		f.Stages[last].Steps = append(f.Stages[last].Steps, s)
		if no := agrees(t, alone); no == api.OK {
			wantRight(t, f)
		} else {
			wantFault(t, f, no, 1000)
		}
	}
}

// cutBehind is the file without what stands behind a line.
func cutBehind(f api.File, line int) api.File {
	steps := func(list []api.Step) []api.Step {
		var kept []api.Step
		for _, s := range list {
			if s.Line <= line {
				kept = append(kept, s)
			}
		}
		return kept
	}
	cut := api.File{Escape: f.Escape, Args: steps(f.Args)}
	for _, s := range f.Stages {
		if s.Line <= line {
			s.Steps = steps(s.Steps)
			cut.Stages = append(cut.Stages, s)
		}
	}
	return cut
}

func TestWhatStandsBehindHasNoBearing(t *testing.T) {
	random, all := rand.New(rand.NewSource(186)), changes()
	tried := 0
	for tried < 8000 {
		f := randomFile(random, all)
		wrong := plainFile(f)
		if wrong.Line == 0 {
			continue
		}
		cut := cutBehind(f, wrong.Line)
		if len(cut.Stages) == 0 {
			cut.Stages = []api.Stage{{Line: 2000}}
		}
		tried++
		wantFault(t, f, wrong.No, wrong.Line)
		wantFault(t, cut, wrong.No, wrong.Line)
	}
}

func TestTagsOfRefs(t *testing.T) {
	tags := []string{"latest", "x", "0", "_", "A.-", "LATEST", "1.0-a_", "______"}
	eachText([]string{"a", "0", ".", "/", "-", strings.Repeat("b", 40), "scratch"}, 5, func(s string) {
		if check.Ref(s) != nil {
			return
		}
		for _, tag := range tags {
			wantRef(t, s+":"+tag, true)
		}
	})
}

// R3, R4, R5

func TestEmptyLists(t *testing.T) {
	full := func(s api.Step) api.Step {
		if s.Pairs == nil {
			s.Pairs = []api.Pair{}
		}
		if s.Words == nil {
			s.Words = []string{}
		}
		if s.Docs == nil {
			s.Docs = []api.Doc{}
		}
		if s.Exec == nil {
			s.Exec = []string{}
		}
		return s
	}
	for _, s := range right() {
		wantStep(t, full(s), api.OK)
		s.Words, s.Pairs, s.Docs = nil, nil, nil
		if no := agrees(t, with(s)); no != agrees(t, with(full(s))) {
			t.Fatal(no)
		}
	}
	wantFault(t, api.File{Escape: '\\', Args: []api.Step{}, Stages: []api.Stage{}}, api.ErrShort, 0)
	wantRight(t, api.File{Escape: '\\', Args: []api.Step{}, Stages: []api.Stage{{Base: "a", Steps: []api.Step{}}}})
}

// roomy is a list with something behind its end.
func roomy[T any](list []T, behind T) []T {
	return append(slices.Clone(list), behind, behind)[: len(list) : len(list)+2]
}

// roomyFile is a file of which each list has something behind its end.
func roomyFile(f api.File) api.File {
	steps := func(list []api.Step) []api.Step {
		var out []api.Step
		for _, s := range list {
			s.Pairs, s.Words, s.Exec = roomy(s.Pairs, api.Pair{Key: "'"}), roomy(s.Words, "'"), roomy(s.Exec, "\xff")
			s.Docs = roomy(s.Docs, api.Doc{Name: "'"})
			out = append(out, s)
		}
		return roomy(out, api.Step{Mode: "'"})
	}
	var stages []api.Stage
	for _, s := range f.Stages {
		s.Steps = steps(s.Steps)
		stages = append(stages, s)
	}
	f.Args, f.Stages = steps(f.Args), roomy(stages, api.Stage{Base: "'"})
	return f
}

// allOf tells all that a file holds, the spare room of its lists too.
func allOf(f api.File) string {
	told := fmt.Sprintf("%#v", f)
	steps := func(list []api.Step) {
		for _, s := range list[:cap(list)] {
			told += fmt.Sprintf("%#v %q %q %q %#v", s, s.Pairs[:cap(s.Pairs)], s.Words[:cap(s.Words)], s.Exec[:cap(s.Exec)], s.Docs[:cap(s.Docs)])
		}
	}
	steps(f.Args)
	for _, s := range f.Stages[:cap(f.Stages)] {
		told += fmt.Sprintf("%#v", s)
		steps(s.Steps)
	}
	return told
}

func TestNothingHandedInChanges(t *testing.T) {
	random, all := rand.New(rand.NewSource(187)), changes()
	for range 2000 {
		f := randomFile(random, all)
		for i := range f.Stages {
			f.Stages[i].Steps = append(f.Stages[i].Steps, randomStep(random, 99, all, 2))
		}
		f = roomyFile(f)
		told := allOf(f)
		no := agrees(t, f)
		if now := allOf(f); now != told {
			t.Fatalf("%s became %s", told, now)
		}
		if again := agrees(t, f); again != no {
			t.Fatalf("%v, and then %v", no, again)
		}
	}
}

// R1: great files and texts end in time.

func TestGreatFiles(t *testing.T) {
	great := strings.Repeat("${A:-", 1<<20)
	for _, s := range right() {
		wantStep(t, from(s, great), map[bool]api.Errno{true: api.ErrRef, false: api.ErrFlag}[s.Op == api.OpCopy])
	}
	wantStep(t, step(api.OpUser, great), api.ErrForm)
	wantStep(t, step(api.OpUser, great+strings.Repeat("}", 1<<20)), api.OK)
	wantStep(t, pairs(api.OpLabel, great, ""), api.ErrName)
	wantStep(t, pairs(api.OpLabel, strings.Repeat("a", 1<<24), great+`"`), api.ErrQuote)
	wantStep(t, docs(step(api.OpCopy, "<<"+great, "a"), api.Doc{Name: great}), api.ErrDoc)
	wantStep(t, docs(step(api.OpCopy, "<<E", "a"), api.Doc{Name: "E", Text: great + "'"}), api.ErrQuote)
	wantStep(t, exec(api.OpCmd, great, great+"\xff"), api.ErrText)
	wantStep(t, exec(api.OpCmd, make([]string, 1<<22)...), api.ErrMany)
	wantStep(t, step(api.OpRm, make([]string, 1<<22)...), api.ErrMany)
	wantFault(t, of(make([]api.Stage, 1<<20)...), api.ErrMany, 0)
	wantFault(t, with(make([]api.Step, 1<<20)...), api.ErrMany, 0)
	steps := slices.Repeat([]api.Step{docs(step(api.OpCopy, slices.Repeat([]string{"<<E"}, api.MaxWords-1)...), slices.Repeat([]api.Doc{doc}, api.MaxWords-1)...)}, api.MaxSteps)
	for i := range steps {
		steps[i].Words = append(slices.Clone(steps[i].Words), "a")
	}
	wantRight(t, with(steps...))
}
