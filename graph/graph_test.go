package graph_test

import (
	"errors"
	"fmt"
	"math"
	"math/rand"
	"reflect"
	"slices"
	"strconv"
	"strings"
	"testing"

	"strata/api"
	"strata/check"
	"strata/graph"
	"strata/parse"
)

// same tells whether two plans are; lists that are nil or empty are.
func same(a, b api.Plan) bool {
	nodes := func(x, y api.Node) bool { return x.Base == y.Base && slices.Equal(x.Froms, y.Froms) }
	return slices.EqualFunc(a.Nodes, b.Nodes, nodes) && a.Target == b.Target && slices.Equal(a.Need, b.Need) && slices.Equal(a.Images, b.Images)
}

// alike tells whether two lists of waves are the same; lists that are nil or empty are.
func alike(a, b [][]int) bool { return slices.EqualFunc(a, b, slices.Equal[[]int]) }

// wantError fails unless Make answers that error alone: with one fault of that line, or, if it has no place, with none.
func wantError(t *testing.T, f api.File, args []api.Pair, target string, want wrong) {
	t.Helper()
	told := func() string {
		return fmt.Sprintf("Make(%.600q, %.300q, %.100q)", fmt.Sprint(f), fmt.Sprint(args), target)
	}
	p, err := graph.Make(f, args, target)
	if err == nil {
		t.Fatalf("%s: nothing is wrong, and %v at %d should be", told(), want.No, want.Line)
	}
	if !reflect.DeepEqual(p, api.Plan{}) {
		t.Fatalf("%s: beside the error stands %v", told(), p)
	}
	for no := api.ErrArg; no <= api.ErrEmpty; no++ {
		if errors.Is(err, no) != (no == want.No) {
			t.Fatalf("%s: the error is %v, not %v", told(), err, want.No)
		}
	}
	var met []api.Fault
	for e := err; e != nil; e = errors.Unwrap(e) {
		if fault, is := e.(api.Fault); is {
			met = append(met, fault)
		}
	}
	if want.noPlace != (len(met) == 0) || !want.noPlace && !slices.Equal(met, []api.Fault{want.Fault}) {
		t.Fatalf("%s: the faults are %#v, not %#v", told(), met, want)
	}
}

// wantFault fails unless Make answers that error at that line.
func wantFault(t *testing.T, f api.File, args []api.Pair, no api.Errno, line int) {
	t.Helper()
	wantError(t, f, args, "", wrong{Fault: api.Fault{No: no, Line: line}})
}

// made is what Make answers, where nothing is wrong.
func made(t *testing.T, f api.File, args []api.Pair, target string) api.Plan {
	t.Helper()
	p, err := graph.Make(f, args, target)
	if err != nil {
		t.Fatalf("Make(%.600q, %.300q, %.100q): %v", fmt.Sprint(f), fmt.Sprint(args), target, err)
	}
	return p
}

// agrees fails unless Make answers what the second telling does; it tells the error's number.
func agrees(t *testing.T, f api.File, args []api.Pair, target string) api.Errno {
	t.Helper()
	want, wrong := plainPlan(f, args, target)
	if wrong.No != api.OK {
		wantError(t, f, args, target, wrong)
		return wrong.No
	}
	p := made(t, f, args, target)
	if !same(p, want) {
		t.Fatalf("Make(%.600q, %.300q, %.100q): %v, not %v", fmt.Sprint(f), fmt.Sprint(args), target, p, want)
	}
	wantWaves(t, p, plainWaves(p))
	return api.OK
}

func wantWaves(t *testing.T, p api.Plan, want [][]int) {
	t.Helper()
	if waves := graph.Waves(p); !alike(waves, want) {
		t.Fatalf("Waves(%.600q): %.600q, not %.600q", fmt.Sprint(p), fmt.Sprint(waves), fmt.Sprint(want))
	}
}

// fileOf is a file as the chapter's table tells it: parts with `;` between, `FROM base`, `FROM base AS name`, `ARG key=value` or `ARG key`; behind a comma `C x`, a COPY --from=x, or another instruction. Each has a line of its own, from 1 on.
func fileOf(t *testing.T, told string) api.File {
	t.Helper()
	var lines []string
	for part := range strings.SplitSeq(told, ";") {
		for line := range strings.SplitSeq(part, ",") {
			line = strings.TrimSpace(line)
			if from, is := strings.CutPrefix(line, "C "); is {
				line = "COPY --from=" + from + " x y"
			}
			lines = append(lines, line)
		}
	}
	f, err := parse.File(strings.Join(lines, "\n") + "\n")
	if err != nil {
		t.Fatalf("%s: %v", told, err)
	}
	return f
}

func stage(number int) api.Ref { return api.Ref{Kind: api.RStage, Stage: number} }

func image(name string) api.Ref { return api.Ref{Kind: api.RImage, Name: name} }

func pair(key, val string) api.Pair { return api.Pair{Key: key, Val: val} }

func refs(list ...api.Ref) []api.Ref { return list }

// noStage is the error of a target.
var noStage = wrong{Fault: api.Fault{No: api.ErrStage}, noPlace: true}

const three = "FROM scratch AS a; FROM img AS b, C a; FROM b, C 0, C other:1"

func TestExamples(t *testing.T) {
	f := fileOf(t, three)
	nodes := []api.Node{{}, {Base: image("img:latest"), Froms: refs(stage(0))}, {Base: stage(1), Froms: refs(stage(0), image("other:1"))}}
	p := made(t, f, nil, "")
	if want := (api.Plan{Nodes: nodes, Target: 2, Need: []int{0, 1, 2}, Images: []string{"img:latest", "other:1"}}); !same(p, want) {
		t.Errorf("%v", p)
	}
	wantWaves(t, p, [][]int{{0}, {1}, {2}})
	for _, target := range []string{"b", "1", "01"} {
		p := made(t, f, nil, target)
		if want := (api.Plan{Nodes: nodes, Target: 1, Need: []int{0, 1}, Images: []string{"img:latest"}}); !same(p, want) {
			t.Errorf("%s: %v", target, p)
		}
		wantWaves(t, p, [][]int{{0}, {1}})
	}
	wantError(t, f, nil, "c", noStage)
	wantError(t, f, nil, "3", noStage)

	wantFault(t, fileOf(t, "FROM scratch AS a, C a"), nil, api.ErrForward, 2)
	wantFault(t, fileOf(t, "FROM b; FROM scratch AS b"), nil, api.ErrForward, 1)
	wantFault(t, fileOf(t, "FROM scratch, C 1"), nil, api.ErrStage, 2)
	wantFault(t, fileOf(t, "FROM scratch, C 1; FROM scratch"), nil, api.ErrForward, 2)

	wantBase(t, "ARG V=x; FROM $V", nil, image("x:latest"))
	wantBase(t, "ARG V=x; FROM $V", []api.Pair{pair("V", "y")}, image("y:latest"))
	wantFault(t, fileOf(t, "ARG V=x; FROM $V"), []api.Pair{pair("V", "")}, api.ErrEmpty, 2)
	wantBase(t, "ARG V=x; ARG V; FROM ${V:-z}", nil, image("z:latest"))

	wantFault(t, fileOf(t, "FROM Img"), nil, api.ErrRef, 1)
	wantFault(t, fileOf(t, "FROM scratch:1"), nil, api.ErrRef, 1)
	wantFault(t, fileOf(t, "FROM scratch, C x-"), nil, api.ErrRef, 2)

	wantWaves(t, api.Plan{Need: []int{0, 1, 9, 0}, Nodes: []api.Node{{Base: stage(1)}, {Base: stage(0), Froms: refs(stage(2))}}}, nil)
}

// wantBase fails unless the last stage begins with that.
func wantBase(t *testing.T, told string, args []api.Pair, want api.Ref) {
	t.Helper()
	f := fileOf(t, told)
	p := made(t, f, args, "")
	if ref := p.Nodes[len(p.Nodes)-1].Base; ref != want {
		t.Fatalf("%s: %v, not %v", told, ref, want)
	}
	agrees(t, f, args, "")
}

// P19.1

func TestCheckComesFirst(t *testing.T) {
	wantFault(t, api.File{}, nil, api.ErrArg, 0)
	wantFault(t, api.File{Escape: '\\'}, nil, api.ErrShort, 0)
	wantFault(t, api.File{Escape: '`', Stages: make([]api.Stage, api.MaxStages+1)}, nil, api.ErrMany, 0)
	for _, x := range []struct {
		told string
		no   api.Errno
		line int
	}{
		{"FROM Img; FROM b, C 9; FROM scratch AS b; FROM scratch AS b", api.ErrTwice, 5},
		{"ARG V; FROM $V; FROM 'a", api.ErrQuote, 3},
		{"FROM ${A:-''}; FROM scratch, C A", api.ErrRef, 3},
		{"FROM b; FROM scratch AS A", api.ErrName, 2},
		{"FROM b; FROM scratch, WORKDIR ${", api.ErrForm, 3},
		{"FROM b; FROM scratch, MODE 7 'a", api.ErrQuote, 3},
	} {
		f := handMade(x.told)
		var fault api.Fault
		if !errors.As(check.File(f), &fault) || fault != (api.Fault{No: x.no, Line: x.line}) {
			t.Fatalf("%s: %v", x.told, fault)
		}
		wantError(t, f, nil, "none", wrong{Fault: fault})
		wantError(t, f, []api.Pair{pair("V", strings.Repeat("a", api.MaxValue+1))}, "", wrong{Fault: fault})
	}
}

// handMade is a file put together without parse, which wouldn't read all that layer check refuses; a word of it is what stands between two blanks.
func handMade(told string) api.File {
	f := api.File{Escape: '\\'}
	line := 0
	ops := map[string]api.Op{"ARG": api.OpArg, "C": api.OpCopy, "WORKDIR": api.OpWorkdir, "MODE": api.OpMode}
	for part := range strings.SplitSeq(told, "; ") {
		for piece := range strings.SplitSeq(part, ", ") {
			line++
			list := strings.Split(piece, " ")
			op := ops[list[0]]
			switch {
			case op == api.OpNone:
				f.Stages = append(f.Stages, api.Stage{Line: line, Base: list[1], Name: strings.Join(list[min(3, len(list)):], "")})
				continue
			case op == api.OpArg:
				f.Args = append(f.Args, api.Step{Op: op, Line: line, Pairs: []api.Pair{{Key: list[1]}}, Bare: true})
				continue
			}
			step := api.Step{Op: op, Line: line, Words: list[1:]}
			if op == api.OpCopy {
				step = copied(list[1], line)
			}
			last := &f.Stages[len(f.Stages)-1]
			last.Steps = append(last.Steps, step)
		}
	}
	return f
}

// copied is a COPY.
func copied(from string, line int) api.Step {
	return api.Step{Op: api.OpCopy, Line: line, From: from, Words: []string{"x", "y"}}
}

// arg is an ARG.
func arg(key, val string, line int) api.Step {
	return api.Step{Op: api.OpArg, Line: line, Pairs: []api.Pair{{Key: key, Val: val}}}
}

// bare is an ARG without a value.
func bare(key string, line int) api.Step {
	s := arg(key, "", line)
	s.Bare = true
	return s
}

// of is a file of stages.
func of(stages ...api.Stage) api.File { return api.File{Escape: '\\', Stages: stages} }

// withArgs is a file of ARGs and one stage at the line 9.
func withArgs(base string, args ...api.Step) api.File {
	f := of(api.Stage{Line: 9, Base: base})
	f.Args = args
	return f
}

func TestValuesThatAreTooLong(t *testing.T) {
	long := strings.Repeat("a", api.MaxValue)
	right := []api.File{
		withArgs("scratch", arg("A", long, 1), arg("B", "$A", 2), arg("C", `"$B"`, 3)),
		withArgs("${A:+}b", arg("A", long, 1)),
		withArgs("${D:-b}", arg("A", long, 1), bare("A", 2), arg("B", "x$A", 3)),
		withArgs("b", arg("A", "'"+long+"'", 1)),
	}
	for _, f := range right {
		if no := agrees(t, f, nil, ""); no != api.OK {
			t.Fatal(no)
		}
	}
	wantFault(t, withArgs("Img", arg("A", long+"b", 4)), nil, api.ErrMany, 4)
	wantFault(t, withArgs("", arg("A", long+"b", 4)), nil, api.ErrShort, 9)
	wantFault(t, withArgs("Img", arg("A", long, 3), arg("B", "x$A", 4), arg("C", "x$A", 5)), nil, api.ErrMany, 4)
	wantFault(t, withArgs("Img", arg("A", long, 3), arg("B", "$A$A", 4)), nil, api.ErrMany, 4)
	wantFault(t, withArgs("$A", arg("A", long, 3)), nil, api.ErrRef, 9)
	wantFault(t, withArgs("x$A", arg("A", long, 3)), nil, api.ErrMany, 9)
	wantFault(t, withArgs(long+"b"), nil, api.ErrMany, 9)
	wantFault(t, of(api.Stage{Line: 1, Base: "scratch", Steps: []api.Step{copied("9", 2)}}, api.Stage{Line: 3, Base: long + "b"}), nil, api.ErrStage, 2)
}

func TestGivenValuesAreNotExpanded(t *testing.T) {
	long := strings.Repeat("a", api.MaxValue+1)
	given := []api.Pair{pair("A", long), pair("B", "'$A${")}
	f := withArgs("x", arg("A", long, 1), arg("B", "x", 2), arg("C", "${A:+c}", 3))
	if p := made(t, f, given, ""); p.Nodes[0].Base != image("x:latest") {
		t.Fatal(p)
	}
	f.Stages[0].Base = "$C"
	if p := made(t, f, given, ""); p.Nodes[0].Base != image("c:latest") {
		t.Fatal(p)
	}
	f.Stages[0].Base = "$A"
	wantFault(t, f, given, api.ErrMany, 9)
	f.Stages[0].Base = "$B"
	wantFault(t, f, given, api.ErrRef, 9)
	f.Args = append(f.Args, arg("D", "$A", 4))
	wantFault(t, f, given, api.ErrMany, 4)
}

func TestVariables(t *testing.T) {
	for _, x := range []struct {
		told  string
		given []api.Pair
		want  string
	}{
		{"ARG V=x; FROM $V", nil, "x"},
		{"ARG V=x; FROM $V", []api.Pair{pair("V", "z"), pair("W", "w"), pair("V", "y")}, "y"},
		{"ARG V=x; FROM $V", []api.Pair{pair("v", "z"), pair("", "w"), pair("VV", "y")}, "x"},
		{"ARG V=x; FROM ${V:-z}", []api.Pair{pair("V", "y"), pair("V", "")}, "z"},
		{"FROM ${V:-z}", []api.Pair{pair("V", "y")}, "z"},
		{"ARG V; FROM ${V:-z}", []api.Pair{pair("V", "y")}, "y"},
		{"ARG V; FROM ${V:-z}", nil, "z"},
		{"ARG V=x; ARG V; FROM ${V:-z}", []api.Pair{pair("V", "y")}, "y"},
		{"ARG V=x; ARG V=$V$V; ARG V=$V$V; FROM $V", nil, "xxxx"},
		{"ARG V=x; ARG V=$V$V; FROM $V", []api.Pair{pair("V", "y")}, "y"},
		{"ARG V=x; ARG W=$V-$V; ARG V=1; FROM $W$V", nil, "x-x1"},
		{"ARG W=${V:-n}; ARG V=x; FROM $W$V", []api.Pair{pair("V", "y")}, "ny"},
		{"ARG V=x; ARG W=$V; ARG V; FROM $W${V:-z}", nil, "xz"},
		{"ARG V='$W'; ARG W=w; FROM ${V:+b}$W", nil, "bw"},
		{"ARG V=\"a\"'b'\\c; FROM $V", nil, "abc"},
	} {
		wantBase(t, x.told, x.given, image(x.want+":latest"))
	}
	wantFault(t, fileOf(t, "FROM scratch, ARG V=x; FROM $V"), []api.Pair{pair("V", "y")}, api.ErrEmpty, 3)
	wantFault(t, fileOf(t, "FROM scratch, ENV V=x; FROM $V"), nil, api.ErrEmpty, 3)
	wantFault(t, fileOf(t, "ARG V='x y'; FROM $V"), nil, api.ErrRef, 2)
	wantFault(t, fileOf(t, "ARG V='\"x\"'; FROM $V"), nil, api.ErrRef, 2)
}

func TestEscape(t *testing.T) {
	f := withArgs("$V`c", arg("V", "a`b`$x", 1))
	wantFault(t, f, nil, api.ErrRef, 9)
	f.Escape = '`'
	wantFault(t, f, nil, api.ErrRef, 9)
	f.Args[0].Pairs[0].Val = "a`b"
	if p := made(t, f, nil, ""); p.Nodes[0].Base != image("abc:latest") {
		t.Fatal(p)
	}
	f.Escape = '\\'
	wantFault(t, f, nil, api.ErrRef, 9)
}

func TestBases(t *testing.T) {
	for _, x := range []struct {
		told string
		want api.Ref
	}{
		{"FROM scratch", api.Ref{}}, {"FROM 'scratch'", api.Ref{}}, {"ARG V=scra; FROM ${V}tch", api.Ref{}},
		{"FROM x AS a; FROM a", stage(0)}, {"FROM x; FROM x AS a; FROM x AS b; FROM \"a\"", stage(1)}, {"ARG V=a; FROM x AS a; FROM $V", stage(0)},
		{"FROM x AS a; FROM a:latest", image("a:latest")}, {"FROM x AS a; FROM a:1", image("a:1")}, {"FROM x AS a; FROM aa", image("aa:latest")},
		{"FROM x AS a; FROM 0", image("0:latest")}, {"FROM 7", image("7:latest")}, {"FROM lib/x.y", image("lib/x.y:latest")},
		{"FROM x:_", image("x:_")}, {"FROM scratch0", image("scratch0:latest")}, {"FROM scratch/a", image("scratch/a:latest")},
		{"FROM latest", image("latest:latest")}, {"FROM " + strings.Repeat("a", 89), image(strings.Repeat("a", 89) + ":latest")},
		{"FROM " + strings.Repeat("a", 90) + ":12345", image(strings.Repeat("a", 90) + ":12345")},
		{"FROM x AS a-; FROM a-", stage(0)}, {"FROM x AS " + strings.Repeat("a", 96) + "; FROM " + strings.Repeat("a", 96), stage(0)},
	} {
		wantBase(t, x.told, nil, x.want)
	}
	for _, x := range []struct {
		base string
		no   api.Errno
	}{
		{"''", api.ErrEmpty}, {"$NO", api.ErrEmpty}, {"b", api.ErrForward}, {"c", api.ErrForward}, {"${NO:-'c'}", api.ErrForward},
		{"A", api.ErrRef}, {"scratch:1", api.ErrRef}, {"Scratch", api.ErrRef}, {"a-", api.ErrRef}, {"x:1:2", api.ErrRef}, {"x:", api.ErrRef}, {":", api.ErrRef}, {"' '", api.ErrRef},
		{"' a'", api.ErrRef}, {"'$A'", api.ErrRef}, {"/x", api.ErrRef}, {"x-", api.ErrRef}, {strings.Repeat("a", 90), api.ErrRef}, {"é", api.ErrRef},
	} {
		f := of(api.Stage{Line: 1, Base: "x", Name: "a"}, api.Stage{Line: 2, Base: x.base, Name: "b", Steps: []api.Step{copied("9", 3)}}, api.Stage{Line: 4, Base: "Img", Name: "c"})
		wantFault(t, f, nil, x.no, 2)
		wantError(t, f, nil, "none", wrong{Fault: api.Fault{No: x.no, Line: 2}})
		wantError(t, f, nil, "a", wrong{Fault: api.Fault{No: x.no, Line: 2}})
	}
}

func TestFroms(t *testing.T) {
	// The stages: a, none, b (which asks), c.
	asking := func(from string) api.File {
		return of(api.Stage{Line: 1, Base: "scratch", Name: "a"}, api.Stage{Line: 2, Base: "x"}, api.Stage{Line: 3, Base: "x", Name: "b", Steps: []api.Step{copied("", 4), copied(from, 5), {Op: api.OpUser, Line: 6, Words: []string{"u"}}}}, api.Stage{Line: 7, Base: "scratch", Name: "c"})
	}
	noughts := strings.Repeat("0", 300)
	for from, want := range map[string]api.Ref{
		"": {}, "0": stage(0), "1": stage(1), "00": stage(0), "0001": stage(1), noughts: stage(0), noughts + "1": stage(1), "a": stage(0),
		"a:latest": image("a:latest"), "0:1": image("0:1"), "x": image("x:latest"), "x:1": image("x:1"), "0a": image("0a:latest"), "1.": {Kind: -1}, "1.0": image("1.0:latest"), "latest": image("latest:latest"),
	} {
		f := asking(from)
		if want.Kind < 0 {
			wantFault(t, f, nil, api.ErrRef, 5)
			continue
		}
		if froms := made(t, f, nil, "").Nodes[2].Froms; !slices.Equal(froms, refs(api.Ref{}, want, api.Ref{})) {
			t.Fatalf("%s: %v", from, froms)
		}
		agrees(t, f, nil, "b")
	}
	for from, no := range map[string]api.Errno{
		"2": api.ErrForward, "3": api.ErrForward, "02": api.ErrForward, noughts + "3": api.ErrForward, "b": api.ErrForward, "c": api.ErrForward,
		"4": api.ErrStage, "5": api.ErrStage, "04": api.ErrStage, "10": api.ErrStage, "18446744073709551616": api.ErrStage, "18446744073709551617": api.ErrStage, "9223372036854775808": api.ErrStage, "4294967296": api.ErrStage, strings.Repeat("9", 500): api.ErrStage, "1" + noughts: api.ErrStage,
		"x-": api.ErrRef, "x..": api.ErrRef, "a_": api.ErrRef, strings.Repeat("a", 90): api.ErrRef,
	} {
		wantFault(t, asking(from), nil, no, 5)
	}
	// A From is as it is written, whatever the variables.
	f := asking("a")
	f.Args = []api.Step{arg("a", "x", 0)}
	agrees(t, f, nil, "")
}

func TestOrderOfWhatIsWrong(t *testing.T) {
	long := strings.Repeat("a", api.MaxValue+1)
	f := api.File{Escape: '\\', Args: []api.Step{arg("A", long, 1), arg("B", long, 2)}, Stages: []api.Stage{
		{Line: 3, Base: long, Name: "a", Steps: []api.Step{copied("9", 4), copied("a", 5), copied("x-", 6)}},
		{Line: 7, Base: "''", Steps: []api.Step{copied("b", 8)}},
		{Line: 9, Base: "b", Name: "b", Steps: []api.Step{copied("3", 10)}},
		{Line: 11, Base: "A", Steps: []api.Step{copied("3", 12)}},
	}}
	mend := map[int]func(){
		1: func() { f.Args[0].Pairs[0].Val = "x" }, 2: func() { f.Args[1].Pairs[0].Val = "x" },
		3: func() { f.Stages[0].Base = "x" }, 7: func() { f.Stages[1].Base = "x" }, 9: func() { f.Stages[2].Base = "x" }, 11: func() { f.Stages[3].Base = "x" },
		4: func() { f.Stages[0].Steps[0].From = "x" }, 5: func() { f.Stages[0].Steps[1].From = "x" }, 6: func() { f.Stages[0].Steps[2].From = "x" },
		8: func() { f.Stages[1].Steps[0].From = "0" }, 10: func() { f.Stages[2].Steps[0].From = "1" }, 12: func() { f.Stages[3].Steps[0].From = "2" },
	}
	wants := []api.Errno{api.ErrMany, api.ErrMany, api.ErrMany, api.ErrStage, api.ErrForward, api.ErrRef, api.ErrEmpty, api.ErrForward, api.ErrForward, api.ErrForward, api.ErrRef, api.ErrForward}
	for i, no := range wants {
		wantError(t, f, nil, "none", wrong{Fault: api.Fault{No: no, Line: i + 1}})
		mend[i+1]()
	}
	wantError(t, f, nil, "none", noStage)
	if no := agrees(t, f, nil, ""); no != api.OK {
		t.Fatal(no)
	}
}

func TestLinesAreToldAsTheyStand(t *testing.T) {
	for _, line := range []int{0, 1, -1, 17, math.MaxInt, math.MinInt} {
		wantFault(t, of(api.Stage{Line: line, Base: "A"}), nil, api.ErrRef, line)
		wantFault(t, of(api.Stage{Line: 3, Base: "a", Steps: []api.Step{copied("1", line)}}), nil, api.ErrStage, line)
		f := of(api.Stage{Line: 3, Base: "a"})
		f.Args = []api.Step{arg("A", strings.Repeat("a", api.MaxValue+1), line)}
		wantFault(t, f, nil, api.ErrMany, line)
	}
}

func TestTargets(t *testing.T) {
	f := fileOf(t, "FROM x AS a; FROM x; FROM x AS c, C 1; FROM a AS e0; FROM c")
	for target, want := range map[string]int{"": 4, "a": 0, "c": 2, "e0": 3, "0": 0, "1": 1, "2": 2, "3": 3, "4": 4, "00": 0, "04": 4, "0000000000000000000000002": 2} {
		if p := made(t, f, nil, target); p.Target != want {
			t.Fatalf("%s: %v", target, p)
		}
		agrees(t, f, nil, target)
	}
	for _, target := range []string{"b", "A", "aa", "e", "scratch", "x", "x:latest", "5", "05", "10", "4294967296", "18446744073709551616", "18446744073709551617", strings.Repeat("9", 1000), "-1", "+1", "1 ", " 1", "1a", "0x1", "1.0", "１", "\x00", "\xff", "$A", "a,c"} {
		wantError(t, f, nil, target, noStage)
	}
	one := fileOf(t, "FROM scratch")
	for target, is := range map[string]bool{"": true, "0": true, "000": true, "1": false, "scratch": false} {
		if _, err := graph.Make(one, nil, target); (err == nil) != is {
			t.Fatalf("%s: %v", target, err)
		}
	}
}

func TestNumbers(t *testing.T) {
	f := of(slices.Repeat([]api.Stage{{Line: 1, Base: "x"}}, api.MaxStages)...)
	for number := range 400 {
		for _, noughts := range []string{"", "0", "00"} {
			text := noughts + strconv.Itoa(number)
			f.Stages[20].Steps = []api.Step{copied(text, 2)}
			switch {
			case number < 20:
				if p := made(t, f, nil, "20"); p.Nodes[20].Froms[0] != stage(number) || !slices.Equal(p.Need, []int{number, 20}) {
					t.Fatalf("%s: %v", text, p)
				}
			case number < api.MaxStages:
				wantFault(t, f, nil, api.ErrForward, 2)
			default:
				wantFault(t, f, nil, api.ErrStage, 2)
			}
			f.Stages[20].Steps = nil
			if number >= api.MaxStages {
				wantError(t, f, nil, text, noStage)
			} else if p := made(t, f, nil, text); p.Target != number || !slices.Equal(p.Need, []int{number}) {
				t.Fatalf("%s: %v", text, p)
			}
		}
	}
}

func TestNeedAndImages(t *testing.T) {
	for _, x := range []struct {
		told, target string
		need         []int
		images       []string
	}{
		{"FROM scratch", "", []int{0}, nil},
		{"FROM x; FROM y; FROM z", "", []int{2}, []string{"z:latest"}},
		{"FROM x; FROM y; FROM z", "0", []int{0}, []string{"x:latest"}},
		{"FROM x AS a; FROM y, C 0; FROM z, C 1", "", []int{0, 1, 2}, []string{"x:latest", "y:latest", "z:latest"}},
		{"FROM x AS a; FROM y, C 0; FROM z, C a", "", []int{0, 2}, []string{"x:latest", "z:latest"}},
		{"FROM z; FROM x, C y, C x:latest, C z:1; FROM y, C 1, C x, C w", "", []int{1, 2}, []string{"x:latest", "y:latest", "z:1", "w:latest"}},
		{"FROM z, C z, C y, C y:latest, C z:latest, C y:1", "", []int{0}, []string{"z:latest", "y:latest", "y:1"}},
		{"FROM x AS a; FROM a AS b; FROM a AS c; FROM b AS d, C c; FROM d", "", []int{0, 1, 2, 3, 4}, []string{"x:latest"}},
		{"FROM x AS a; FROM a AS b; FROM a AS c; FROM b AS d, C c; FROM d", "2", []int{0, 2}, []string{"x:latest"}},
		{"FROM scratch AS a; FROM scratch, C 0, RM z, C 0, C a", "", []int{0, 1}, nil},
	} {
		f := fileOf(t, x.told)
		p := made(t, f, nil, x.target)
		if !slices.Equal(p.Need, x.need) || !slices.Equal(p.Images, x.images) {
			t.Errorf("%s, %q: %v", x.told, x.target, p)
		}
		agrees(t, f, nil, x.target)
	}
}

// randomText hands out texts for bases and Froms, mostly such as are right.
func randomText(random *rand.Rand, this int, froms bool) string {
	some := func(list ...string) string { return list[random.Intn(len(list))] }
	switch n := random.Intn(20); {
	case n < 9 && this > 0:
		return string("abcdefgh"[random.Intn(this)])
	case n < 16:
		return some("img", "img:1", "x", "img:latest", "y/z")
	case n < 18 && froms:
		return some("0", "1", "2", "02", "3")
	case n < 18:
		return some("$V", "${W}", "'x'", "${V:-x}", "scratch", "0")
	case n == 18 && random.Intn(3) == 0:
		return some("a", "b", "c", "d", "e", "x-", "9")
	case !froms:
		return "scratch"
	}
	return ""
}

// randomFile is a file of stages a, b, .., of which some have no name.
func randomFile(random *rand.Rand) api.File {
	some := func(list ...string) string { return list[random.Intn(len(list))] }
	line := 0
	next := func() int {
		line += 1 + random.Intn(3)
		return line
	}
	f := api.File{Escape: "\\`"[random.Intn(2)]}
	for range random.Intn(4) {
		if random.Intn(4) == 0 {
			f.Args = append(f.Args, bare(some("V", "W"), next()))
		} else {
			f.Args = append(f.Args, arg(some("V", "W"), some("a", "b", "x", "img", "$V", "$W", "x$V", "scratch", "", "${W:-a}"), next()))
		}
	}
	for i := range 1 + random.Intn(6) {
		s := api.Stage{Line: next(), Base: randomText(random, i, false)}
		if random.Intn(6) > 0 {
			s.Name = string("abcdefgh"[i])
		}
		for range random.Intn(4) {
			switch random.Intn(3) {
			case 0:
				s.Steps = append(s.Steps, api.Step{Op: api.OpRm, Line: next(), Words: []string{"r"}})
			default:
				s.Steps = append(s.Steps, copied(randomText(random, i, true), next()))
			}
		}
		f.Stages = append(f.Stages, s)
	}
	return f
}

func randomArgs(random *rand.Rand) []api.Pair {
	var args []api.Pair
	for range random.Intn(4) {
		args = append(args, pair([]string{"V", "W", "X"}[random.Intn(3)], []string{"a", "x", "img:1", "", "A", "$V"}[random.Intn(6)]))
	}
	return args
}

func randomTarget(random *rand.Rand) string {
	list := []string{"", "", "", "a", "b", "c", "d", "0", "1", "2", "03", "7", "x", "scratch", "-1"}
	return list[random.Intn(len(list))]
}

func TestRandomFiles(t *testing.T) {
	random := rand.New(rand.NewSource(191))
	count := map[api.Errno]int{}
	for range 60000 {
		count[agrees(t, randomFile(random), randomArgs(random), randomTarget(random))]++
	}
	for _, no := range []api.Errno{api.ErrEmpty, api.ErrRef, api.ErrForward, api.ErrStage} {
		if count[no] < 1000 {
			t.Errorf("%v: %d times", no, count[no])
		}
	}
	if count[api.OK] < 15000 {
		t.Errorf("right: %d", count[api.OK])
	}
}

// P19.2

func TestWaves(t *testing.T) {
	node := func(base api.Ref, froms ...api.Ref) api.Node { return api.Node{Base: base, Froms: froms} }
	none := api.Ref{}
	for _, x := range []struct {
		need  []int
		nodes []api.Node
		want  [][]int
	}{
		{nil, nil, nil},
		{[]int{}, []api.Node{{}}, nil},
		{[]int{0}, nil, nil},
		{[]int{-1, 1, math.MaxInt, math.MinInt}, []api.Node{{}}, nil},
		{[]int{0, 0, 0}, []api.Node{{}, {}}, [][]int{{0}}},
		{[]int{3, 1, 2, 1, 0}, make([]api.Node, 5), [][]int{{0, 1, 2, 3}}},
		{[]int{0}, []api.Node{node(stage(0))}, nil},
		{[]int{0}, []api.Node{node(none, none, stage(0))}, nil},
		{[]int{0, 1}, []api.Node{node(stage(1)), {}}, [][]int{{1}, {0}}},
		{[]int{0}, []api.Node{node(stage(1)), {}}, nil},
		{[]int{0, 1}, []api.Node{node(stage(-1)), node(stage(math.MinInt))}, nil},
		{[]int{0, 1}, []api.Node{node(stage(2)), node(none, stage(math.MaxInt))}, nil},
		{[]int{0, 1, 2}, []api.Node{node(stage(1)), node(stage(9)), {}}, [][]int{{2}}},
		{[]int{0, 1, 2, 3}, []api.Node{node(stage(1)), node(stage(0)), node(none, stage(1)), {}}, [][]int{{3}}},
		{[]int{0, 1, 2}, []api.Node{{}, node(stage(0), stage(0), stage(0)), node(stage(1), stage(0), stage(1))}, [][]int{{0}, {1}, {2}}},
		{[]int{2, 1, 0, 3, 4}, []api.Node{node(stage(4)), node(stage(4)), {}, node(stage(2), stage(0)), {}}, [][]int{{2, 4}, {0, 1}, {3}}},
		{[]int{0, 1, 2, 3, 4}, []api.Node{{}, {}, node(stage(0), none, stage(1)), node(stage(0)), node(stage(2), stage(3))}, [][]int{{0, 1}, {2, 3}, {4}}},
		{[]int{3, 2, 1, 0}, []api.Node{node(stage(3)), node(stage(3)), node(stage(3)), {}}, [][]int{{3}, {0, 1, 2}}},
	} {
		p := api.Plan{Need: x.need, Nodes: x.nodes}
		wantWaves(t, p, x.want)
		if again := plainWaves(p); !alike(again, x.want) {
			t.Fatalf("the second telling: %v", again)
		}
		p.Target, p.Images = 7, []string{"x"}
		wantWaves(t, p, x.want)
	}
}

// What is no reference to a stage, or has more fields than it should, is as its kind is.
func TestWavesOfAnyReference(t *testing.T) {
	for _, kind := range []int{api.RScratch, api.RImage, 3, 9, -1, math.MinInt, math.MaxInt} {
		p := api.Plan{Need: []int{0, 1}, Nodes: []api.Node{{Base: api.Ref{Kind: kind, Stage: 1}}, {Froms: refs(api.Ref{Kind: kind, Stage: 1, Name: "x"})}}}
		wantWaves(t, p, [][]int{{0, 1}})
	}
	p := api.Plan{Need: []int{0, 1}, Nodes: []api.Node{{Base: api.Ref{Kind: api.RStage, Stage: 1, Name: "x"}}, {Base: api.Ref{Name: "y", Stage: 1}}}}
	wantWaves(t, p, [][]int{{1}, {0}})
}

func randomPlan(random *rand.Rand) api.Plan {
	size := random.Intn(9)
	number := func() int { return random.Intn(size+2) - random.Intn(2) }
	ref := func(most int) api.Ref {
		switch random.Intn(12) {
		case 0:
			return stage(number())
		case 1:
			return api.Ref{Kind: random.Intn(5) - 1, Stage: number(), Name: "x"}
		case 2:
			return image("y")
		case 3, 4, 5, 6:
			return stage(random.Intn(most + 1))
		}
		return api.Ref{}
	}
	var p api.Plan
	places := random.Perm(size)
	for i := range size {
		n := api.Node{Base: ref(places[i])}
		for range random.Intn(3) {
			n.Froms = append(n.Froms, ref(i))
		}
		p.Nodes = append(p.Nodes, n)
	}
	for range random.Intn(2 * (size + 1)) {
		p.Need = append(p.Need, number())
	}
	if random.Intn(2) == 0 {
		for i := range size {
			p.Need = append(p.Need, i)
		}
	}
	return p
}

func TestRandomPlans(t *testing.T) {
	random := rand.New(rand.NewSource(192))
	deep := 0
	for range 100000 {
		p := randomPlan(random)
		want := plainWaves(p)
		wantWaves(t, p, want)
		if len(want) > 3 {
			deep++
		}
	}
	if deep < 1000 {
		t.Errorf("deep: %d", deep)
	}
}

// P19.3, P19.4

func TestWhatFollows(t *testing.T) {
	random := rand.New(rand.NewSource(193))
	for tried := 0; tried < 8000; {
		p, err := graph.Make(randomFile(random), randomArgs(random), randomTarget(random))
		if err != nil {
			continue
		}
		tried++
		needers := make([]int, len(p.Nodes))
		for i, n := range p.Nodes {
			for _, other := range needs(n) {
				if other >= i || other < 0 {
					t.Fatalf("%v: %d needs %d", p, i, other)
				}
				if slices.Contains(p.Need, i) {
					needers[other]++
				}
			}
		}
		for i := range p.Nodes {
			is := i == p.Target || needers[i] > 0
			if is != slices.Contains(p.Need, i) {
				t.Fatalf("%v: %d", p, i)
			}
		}
		if !slices.IsSorted(p.Need) || p.Need[len(p.Need)-1] != p.Target || !slices.Equal(p.Need, slices.Compact(slices.Clone(p.Need))) {
			t.Fatalf("%v", p)
		}
		followWaves(t, p)
	}
}

// followWaves fails unless the waves of a plan that was made are as the chapter promises.
func followWaves(t *testing.T, p api.Plan) {
	t.Helper()
	waves := graph.Waves(p)
	at := map[int]int{}
	for i, wave := range waves {
		for _, number := range wave {
			if _, twice := at[number]; twice || !slices.Contains(p.Need, number) {
				t.Fatalf("%v: %v", p, waves)
			}
			at[number] = i
		}
	}
	if len(at) != len(p.Need) || len(waves) > len(p.Need) || !slices.Equal(waves[len(waves)-1], []int{p.Target}) {
		t.Fatalf("%v: %v", p, waves)
	}
	for _, number := range p.Need {
		for _, other := range needs(p.Nodes[number]) {
			if at[other] >= at[number] {
				t.Fatalf("%v: %v", p, waves)
			}
		}
	}
}

// P19.5

func TestArgsOfNoBearing(t *testing.T) {
	random := rand.New(rand.NewSource(194))
	keys := func(f api.File) map[string]bool {
		has := map[string]bool{}
		for _, s := range f.Args {
			has[s.Pairs[0].Key] = true
		}
		return has
	}
	for range 20000 {
		f, args, target := randomFile(random), randomArgs(random), randomTarget(random)
		has := keys(f)
		var known, unknown []api.Pair
		for _, x := range args {
			if has[x.Key] {
				known = append(known, x)
			} else {
				unknown = append(unknown, x)
			}
		}
		p, err := graph.Make(f, args, target)
		for range 3 {
			list := slices.Clone(known)
			for _, x := range unknown {
				list = slices.Insert(list, random.Intn(len(list)+1), pair(x.Key, strings.Repeat("a", random.Intn(9))))
			}
			again, errAgain := graph.Make(f, list, target)
			if !same(p, again) || err != errAgain {
				t.Fatalf("%v, %v and %v: %v, %v; %v, %v", f, args, list, p, err, again, errAgain)
			}
		}
	}
}

func TestStagesThatAreNotNeeded(t *testing.T) {
	random := rand.New(rand.NewSource(195))
	for tried := 0; tried < 5000; {
		f, args, target := randomFile(random), randomArgs(random), randomTarget(random)
		p, err := graph.Make(f, args, target)
		if err != nil || len(p.Need) == len(p.Nodes) {
			continue
		}
		changed := f
		changed.Stages = slices.Clone(f.Stages)
		for i := range changed.Stages {
			if !slices.Contains(p.Need, i) {
				s := randomFile(random).Stages[0]
				changed.Stages[i] = api.Stage{Line: s.Line, Base: s.Base, Name: f.Stages[i].Name, Steps: s.Steps}
			}
		}
		again, err := graph.Make(changed, args, target)
		if err != nil {
			continue
		}
		tried++
		if again.Target != p.Target || !slices.Equal(again.Need, p.Need) || !slices.Equal(again.Images, p.Images) {
			t.Fatalf("%v: %v; %v: %v", f, p, changed, again)
		}
		for _, i := range p.Need {
			if again.Nodes[i].Base != p.Nodes[i].Base || !slices.Equal(again.Nodes[i].Froms, p.Nodes[i].Froms) {
				t.Fatalf("%v: %v; %v: %v", f, p, changed, again)
			}
		}
	}
}

// R3, R4, R5

func TestEmptyLists(t *testing.T) {
	f := api.File{Escape: '\\', Args: []api.Step{}, Stages: []api.Stage{{Line: 1, Base: "x", Steps: []api.Step{}}, {Line: 2, Base: "y", Steps: []api.Step{{Op: api.OpCopy, From: "0", Words: []string{"a", "b"}, Pairs: []api.Pair{}, Docs: []api.Doc{}, Exec: []string{}}}}}}
	if no := agrees(t, f, []api.Pair{}, ""); no != api.OK {
		t.Fatal(no)
	}
	if !same(made(t, f, []api.Pair{}, ""), made(t, f, nil, "")) {
		t.Fatal("nil and an empty list are not the same")
	}
	wantWaves(t, api.Plan{Nodes: []api.Node{{Froms: []api.Ref{}}, {}}, Need: []int{0, 1}, Images: []string{}}, [][]int{{0, 1}})
	wantWaves(t, api.Plan{Nodes: []api.Node{}, Need: []int{}}, nil)
}

// roomy is a copy of which each list has something behind its end, in lists inside too.
func roomy[T any](thing T) T {
	copied := reflect.New(reflect.TypeFor[T]()).Elem()
	copied.Set(roomyValue(reflect.ValueOf(thing)))
	return copied.Interface().(T)
}

func roomyValue(v reflect.Value) reflect.Value {
	out := reflect.New(v.Type()).Elem()
	switch v.Kind() {
	case reflect.Slice:
		room := reflect.MakeSlice(v.Type(), v.Len()+2, v.Len()+2)
		for i := range v.Len() {
			room.Index(i).Set(roomyValue(v.Index(i)))
		}
		for i := range 2 {
			room.Index(v.Len() + i).Set(spare(v.Type().Elem()))
		}
		out.Set(room.Slice(0, v.Len()))
	case reflect.Struct:
		for i := range v.NumField() {
			out.Field(i).Set(roomyValue(v.Field(i)))
		}
	default:
		out.Set(v)
	}
	return out
}

// spare is something that stands behind a list's end.
func spare(t reflect.Type) reflect.Value {
	out := reflect.New(t).Elem()
	switch t.Kind() {
	case reflect.String:
		out.SetString("spare")
	case reflect.Int:
		out.SetInt(1)
	case reflect.Struct:
		for i := range t.NumField() {
			out.Field(i).Set(spare(t.Field(i).Type))
		}
	}
	return out
}

// allOf tells all that a file or a plan holds, the spare room of its lists too.
func allOf(v reflect.Value) string {
	switch v.Kind() {
	case reflect.Slice:
		told := "[" + strconv.Itoa(v.Len())
		full := v
		if v.Cap() > 0 {
			full = v.Slice(0, v.Cap())
		}
		for i := range full.Len() {
			told += " " + allOf(full.Index(i))
		}
		return told + "]"
	case reflect.Struct:
		told := "{"
		for i := range v.NumField() {
			told += " " + allOf(v.Field(i))
		}
		return told + "}"
	}
	return fmt.Sprintf("%#v", v)
}

// spoil writes over all that lists of an answer hold, their spare room too.
func spoil(p api.Plan, waves [][]int) {
	bad := api.Ref{Kind: 77, Stage: 77, Name: "bad"}
	fill := func(list []int) {
		for i := range list[:cap(list)] {
			list[:cap(list)][i] = 77
		}
	}
	for _, n := range p.Nodes {
		for i := range n.Froms[:cap(n.Froms)] {
			n.Froms[:cap(n.Froms)][i] = bad
		}
	}
	for i := range p.Nodes[:cap(p.Nodes)] {
		p.Nodes[:cap(p.Nodes)][i] = api.Node{Base: bad}
	}
	fill(p.Need)
	for i := range p.Images[:cap(p.Images)] {
		p.Images[:cap(p.Images)][i] = "bad"
	}
	for _, wave := range waves {
		fill(wave)
	}
	for i := range waves[:cap(waves)] {
		waves[:cap(waves)][i] = []int{77}
	}
}

func TestNothingHandedInChanges(t *testing.T) {
	random := rand.New(rand.NewSource(196))
	for range 3000 {
		f, args, target := roomy(randomFile(random)), roomy(randomArgs(random)), randomTarget(random)
		told := allOf(reflect.ValueOf(f)) + allOf(reflect.ValueOf(args))
		no := agrees(t, f, args, target)
		p, _ := graph.Make(f, args, target)
		other, _ := graph.Make(f, args, target)
		if !same(p, other) {
			t.Fatalf("%v, and then %v", p, other)
		}
		spoil(p, nil)
		if again := agrees(t, f, args, target); again != no {
			t.Fatalf("%v, and then %v", no, again)
		}
		if want, wrong := plainPlan(f, args, target); wrong.No == api.OK && !same(other, want) {
			t.Fatalf("%v became %v", want, other)
		}
		if now := allOf(reflect.ValueOf(f)) + allOf(reflect.ValueOf(args)); now != told {
			t.Fatalf("%s became %s", told, now)
		}
	}
	for range 3000 {
		p := roomy(randomPlan(random))
		told := allOf(reflect.ValueOf(p))
		want := plainWaves(p)
		waves, other := graph.Waves(p), graph.Waves(p)
		spoil(api.Plan{}, waves)
		if now := allOf(reflect.ValueOf(p)); now != told || !alike(other, want) {
			t.Fatalf("%s became %s, or the waves %v became %v", told, now, want, other)
		}
		wantWaves(t, p, want)
	}
}

// No list of one answer lies in another's room.
func TestListsOfOneAnswerAreApart(t *testing.T) {
	random := rand.New(rand.NewSource(197))
	for range 3000 {
		p, err := graph.Make(randomFile(random), nil, "")
		if err != nil {
			continue
		}
		waves := graph.Waves(p)
		want := fmt.Sprint(p, waves)
		for i, n := range p.Nodes {
			_ = append(n.Froms, image("bad"))
			_ = append(p.Nodes[:i:i+1], api.Node{Base: n.Base, Froms: n.Froms})
		}
		_ = append(p.Need, 77)
		_ = append(p.Images, "bad")
		for _, wave := range waves {
			_ = append(wave, 77)
		}
		if now := fmt.Sprint(p, waves); now != want {
			t.Fatalf("%s became %s", want, now)
		}
	}
}

// R1: great files and plans end in time.

func TestGreatFiles(t *testing.T) {
	var args []api.Step
	value := "x"
	for i := range api.MaxSteps - 2 {
		args = append(args, arg("V"+strconv.Itoa(i), value, i))
		value = "$V" + strconv.Itoa(i) + "${V" + strconv.Itoa(i) + "}"
	}
	f := withArgs("x", args...)
	wantFault(t, f, nil, api.ErrMany, 17)
	var many []api.Pair
	for i := range 1 << 16 {
		many = append(many, pair("V"+strconv.Itoa(i), strings.Repeat("y", i%99)))
	}
	if p := made(t, f, many, ""); p.Nodes[0].Base != image("x:latest") {
		t.Fatal(p)
	}
	f.Stages[0].Base = strings.Repeat("$V1$V2", 1<<19)
	wantFault(t, f, many, api.ErrMany, 9)
	f.Stages[0].Base = strings.Repeat("${A:-", 1<<16) + "b" + strings.Repeat("}", 1<<16)
	if p := made(t, f, many, "0"); p.Nodes[0].Base != image("b:latest") {
		t.Fatal(p)
	}
	wantError(t, f, many, strings.Repeat("1", 1<<24), noStage)
	var stages []api.Stage
	for i := range api.MaxStages {
		s := api.Stage{Line: i, Base: "x", Name: "s" + strconv.Itoa(i)}
		for k := range api.MaxSteps / api.MaxStages {
			if i > 0 {
				s.Steps = append(s.Steps, copied(strconv.Itoa((i*k)%i), k), copied("img"+strconv.Itoa(k*i), k))
			}
		}
		s.Steps = s.Steps[:len(s.Steps)/2]
		stages = append(stages, s)
	}
	if no := agrees(t, of(stages...), nil, ""); no != api.OK {
		t.Fatal(no)
	}
}

func TestGreatPlans(t *testing.T) {
	const size = 300000
	row := api.Plan{Nodes: make([]api.Node, size)}
	back := api.Plan{Nodes: make([]api.Node, size)}
	star := api.Plan{Nodes: make([]api.Node, size)}
	ring := api.Plan{Nodes: make([]api.Node, size)}
	for i := range size {
		row.Need = append(row.Need, size-1-i, i)
		row.Nodes[i].Froms = refs(stage(max(i-1, 0)), stage(i/2))
		back.Nodes[i].Base = stage(i + 1)
		star.Nodes[0].Froms = append(star.Nodes[0].Froms, stage(max(i, 1)))
		ring.Nodes[i].Base = stage((i + 1) % size)
	}
	row.Nodes[0].Froms, back.Nodes[size-1] = nil, api.Node{}
	back.Need, star.Need, ring.Need = row.Need, row.Need, row.Need
	if waves := graph.Waves(row); len(waves) != size || !slices.Equal(waves[size-1], []int{size - 1}) {
		t.Fatal(len(waves))
	}
	if waves := graph.Waves(back); len(waves) != size || !slices.Equal(waves[size-1], []int{0}) {
		t.Fatal(len(waves))
	}
	if waves := graph.Waves(star); len(waves) != 2 || len(waves[0]) != size-1 || !slices.Equal(waves[1], []int{0}) {
		t.Fatal(len(waves))
	}
	wantWaves(t, ring, nil)
}
