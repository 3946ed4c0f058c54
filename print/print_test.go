package print_test

import (
	"errors"
	"fmt"
	"math"
	"math/rand"
	"slices"
	"strings"
	"testing"
	"unicode/utf8"

	"strata/api"
	"strata/json"
	"strata/parse"
	"strata/print"
)

// row is lines, each with the byte 0a behind it.
func row(lines ...string) string { return strings.Join(lines, "\n") + "\n" }

func wantLine(t *testing.T, s api.Step, want string) {
	t.Helper()
	if got := print.Line(s); got != want {
		t.Fatalf("Line(%.300q) is %.300q, not %.300q", fmt.Sprint(s), got, want)
	}
}

// wantText fails unless File answers the text, and that is read as a file alike.
func wantText(t *testing.T, f api.File, want string) {
	t.Helper()
	got, err := print.File(f)
	if err != nil || got != want {
		t.Fatalf("File(%.300q) is %.300q, %v, not %.300q", fmt.Sprint(f), got, err, want)
	}
	if read, err := parse.File(got); err != nil || !plainAlike(read, f) {
		t.Fatalf("%.300q is read as %.300q, %v, not %.300q", got, fmt.Sprint(read), err, fmt.Sprint(f))
	}
}

// wantError fails unless File answers the error, which tells no place, and nothing else.
func wantError(t *testing.T, f api.File, want api.Errno) {
	t.Helper()
	got, err := print.File(f)
	if got != "" || err == nil {
		t.Fatalf("File(%.300q) is %.300q, %v, not %v", fmt.Sprint(f), got, err, want)
	}
	for no := api.ErrArg; no <= api.ErrEmpty; no++ {
		if errors.Is(err, no) != (no == want) {
			t.Fatalf("File(%.300q): the error is %v, not %v", fmt.Sprint(f), err, want)
		}
	}
	if fault := (api.Fault{}); errors.As(err, &fault) {
		t.Fatalf("File(%.300q): the error tells the place %d:%d", fmt.Sprint(f), fault.Line, fault.At)
	}
}

// agrees fails unless File answers what the second telling does; it tells whether there was a text.
func agrees(t *testing.T, f api.File) bool {
	t.Helper()
	want, no := plainFile(f)
	if no != api.OK {
		wantError(t, f, no)
		return false
	}
	wantText(t, f, want)
	return true
}

// read is what parse.File reads.
func read(t *testing.T, s string) api.File {
	t.Helper()
	f, err := parse.File(s)
	if err != nil {
		t.Fatalf("%.300q: %v", s, err)
	}
	return f
}

// with is a file of one stage with the steps.
func with(steps ...api.Step) api.File {
	return api.File{Escape: '\\', Stages: []api.Stage{{Base: "a", Steps: steps}}}
}

func pairs(texts ...string) []api.Pair {
	var list []api.Pair
	for i := 0; i < len(texts); i += 2 {
		list = append(list, api.Pair{Key: texts[i], Val: texts[i+1]})
	}
	return list
}

var ops = []api.Op{api.OpArg, api.OpEnv, api.OpLabel, api.OpWorkdir, api.OpCopy, api.OpAdd, api.OpRm, api.OpMkdir, api.OpLink, api.OpMode, api.OpUser, api.OpExpose, api.OpCmd, api.OpEntrypoint}

func TestExamples(t *testing.T) {
	wantLine(t, api.Step{Op: api.OpEnv, Pairs: pairs("A", `"b c"`, "B", "")}, `ENV A="b c" B=`)
	wantLine(t, api.Step{Op: api.OpArg, Bare: true, Pairs: pairs("A", "")}, "ARG A")
	wantLine(t, api.Step{Op: api.OpArg, Pairs: pairs("A", "1")}, "ARG A=1")
	wantLine(t, api.Step{Op: api.OpCopy, From: "s", Mode: "755", Words: []string{"a", "<<-'E'", "/d/"}}, "COPY --from=s --chmod=755 a <<-'E' /d/")
	wantLine(t, api.Step{Op: api.OpRm, Force: true, Mode: "7", Words: []string{"x"}}, "RM --force x")
	wantLine(t, api.Step{Op: api.OpCmd, Exec: []string{"sh", `a"\`, "\t"}}, `CMD ["sh","a\"\\","\u0009"]`)
	wantLine(t, api.Step{}, "")
	wantText(t, read(t, row("arg a", "From  scratch as  X", "# r", "copy <<-E /d", "\tx", "E")), row("ARG a", "FROM scratch AS x", "COPY <<-E /d", "x", "E"))
	wantError(t, api.File{Escape: '\\', Stages: []api.Stage{{Base: "a b"}}}, api.ErrForm)
	wantError(t, with(api.Step{}), api.ErrForm)
	wantError(t, api.File{Escape: 'x', Stages: []api.Stage{{Base: "a"}}}, api.ErrForm)
	wantText(t, read(t, row("FROM scratch", `RM a\\`)), row("FROM scratch", `RM a\\`))
}

// P17.1

// fullStep has something in each field.
func fullStep(op api.Op) api.Step {
	return api.Step{
		Op: op, Line: 7, From: "f", Mode: "m", Force: true, Bare: true, Pairs: pairs("K", "v", "L", ""), Words: []string{"w", "x y"},
		Docs: []api.Doc{{Name: "E", Raw: true, Line: 3, Text: "t\n"}}, Exec: []string{"e", "g h"},
	}
}

func TestLineOfEachOp(t *testing.T) {
	full := []string{
		"ARG K L", "ENV K=v L=", "LABEL K=v L=", "WORKDIR w x y", "COPY --from=f --chmod=m w x y", "ADD --chmod=m w x y", "RM --force w x y",
		"MKDIR --mode=m w x y", "LINK w x y", "MODE w x y", "USER w x y", "EXPOSE w x y", `CMD ["e","g h"]`, `ENTRYPOINT ["e","g h"]`,
	}
	bare := []string{"ARG", "ENV", "LABEL", "WORKDIR", "COPY", "ADD", "RM", "MKDIR", "LINK", "MODE", "USER", "EXPOSE", "CMD []", "ENTRYPOINT []"}
	for i, op := range ops {
		wantLine(t, fullStep(op), full[i])
		wantLine(t, api.Step{Op: op}, bare[i])
		wantLine(t, api.Step{Op: op, Pairs: []api.Pair{}, Words: []string{}, Docs: []api.Doc{}, Exec: []string{}}, bare[i])
	}
}

func TestLineOfOtherOps(t *testing.T) {
	for _, op := range []api.Op{api.OpNone, -1, api.OpEntrypoint + 1, math.MinInt, math.MaxInt} {
		wantLine(t, fullStep(op), "")
	}
}

func TestLineOfPairs(t *testing.T) {
	list := pairs("A", "", "", "b", "A", "c=d", "", "", "x y", "\n")
	wantLine(t, api.Step{Op: api.OpArg, Pairs: list}, "ARG A= =b A=c=d = x y=\n")
	wantLine(t, api.Step{Op: api.OpArg, Pairs: list, Bare: true}, "ARG A  A  x y")
	for _, op := range []api.Op{api.OpEnv, api.OpLabel} {
		for _, bare := range []bool{false, true} {
			wantLine(t, api.Step{Op: op, Pairs: list, Bare: bare}, map[api.Op]string{api.OpEnv: "ENV", api.OpLabel: "LABEL"}[op]+" A= =b A=c=d = x y=\n")
		}
	}
}

func TestLineIsRaw(t *testing.T) {
	for _, text := range []string{"", " ", "\n", "\x00", "\xff", "é", `\`, `a\`, "`", `"`, "'a", "--from=x", "<<E", "$A", "#", "\t\r"} {
		wantLine(t, api.Step{Op: api.OpUser, Words: []string{text}}, "USER "+text)
		wantLine(t, api.Step{Op: api.OpLink, Words: []string{text, text, "z"}}, "LINK "+text+" "+text+" z")
		if text == "" {
			continue
		}
		wantLine(t, api.Step{Op: api.OpCopy, From: text}, "COPY --from="+text)
		wantLine(t, api.Step{Op: api.OpCopy, Mode: text}, "COPY --chmod="+text)
		wantLine(t, api.Step{Op: api.OpAdd, Mode: text}, "ADD --chmod="+text)
		wantLine(t, api.Step{Op: api.OpMkdir, Mode: text}, "MKDIR --mode="+text)
	}
}

func TestFlagsOfOthers(t *testing.T) {
	for op, want := range map[api.Op]string{api.OpRm: "RM x", api.OpLink: "LINK x", api.OpMode: "MODE x", api.OpUser: "USER x", api.OpWorkdir: "WORKDIR x", api.OpExpose: "EXPOSE x"} {
		wantLine(t, api.Step{Op: op, From: "f", Mode: "1", Words: []string{"x"}}, want)
	}
	wantLine(t, api.Step{Op: api.OpAdd, From: "f", Force: true, Words: []string{"x"}}, "ADD x")
	wantLine(t, api.Step{Op: api.OpMkdir, From: "f", Force: true, Words: []string{"x"}}, "MKDIR x")
	wantLine(t, api.Step{Op: api.OpCopy, Force: true, Words: []string{"x"}}, "COPY x")
}

func TestLineOfLists(t *testing.T) {
	for op, word := range map[api.Op]string{api.OpCmd: "CMD", api.OpEntrypoint: "ENTRYPOINT"} {
		wantLine(t, api.Step{Op: op, Exec: []string{""}}, word+` [""]`)
		wantLine(t, api.Step{Op: op, Exec: []string{"", "a", ""}}, word+` ["","a",""]`)
		wantLine(t, api.Step{Op: op, Exec: []string{"\x00\x1f \x7f/", "é\u2028<&>", "\xff\"\xc3"}}, word+` ["\u0000\u001f `+"\x7f/\",\"é\u2028<&>\",\"\xff\\\"\xc3\"]")
		all := ""
		for c := range 256 {
			one := string([]byte{byte(c)})
			all += one
			want := word + ` ["` + one + `"]`
			if c < 32 {
				want = fmt.Sprintf(`%s ["\u%04x"]`, word, c)
			} else if c == '"' || c == '\\' {
				want = word + ` ["\` + one + `"]`
			}
			wantLine(t, api.Step{Op: op, Exec: []string{one}}, want)
		}
		s := api.Step{Op: op, Exec: []string{all, all, strings.ToUpper(all)}}
		wantLine(t, s, plainLine(s))
	}
}

func TestListsAreThoseOfJson(t *testing.T) {
	random := rand.New(rand.NewSource(174))
	for range 20000 {
		var texts []string
		v := api.Json{Kind: api.JList}
		for range random.Intn(4) {
			text := ""
			for range random.Intn(6) {
				text += some(random, "a", `"`, `\`, "/", "\n", "\x01", "\x1f", "\x7f", "é", "\u2028", "\U0001f600", "\ufffd", "<")
			}
			texts = append(texts, text)
			v.Items = append(v.Items, api.Json{Kind: api.JText, Text: text})
		}
		form, err := json.Print(v)
		if err != nil {
			t.Fatal(err)
		}
		wantLine(t, api.Step{Op: api.OpCmd, Exec: texts}, "CMD "+form)
	}
}

func TestRandomLines(t *testing.T) {
	random := rand.New(rand.NewSource(171))
	for range 40000 {
		s := randomStep(random)
		wantLine(t, s, plainLine(s))
	}
}

// P17.2

func TestWhole(t *testing.T) {
	wantText(t, read(t, row("  # escape=`", "", "arg  A", "ArG B='1 2'", "from a aS B", " copy  --chmod=1 --from=x <<E  <<-\"F\" `", "# r", "\td", "#\\", "", "E", "\t\ty", "\tF", `cmd  [ "a" , "\u0041\t" ]`, "from b", "from c\\", "rm `", "  --force x")),
		row("# escape=`", "ARG A", "ARG B='1 2'", "FROM a AS b", "COPY --from=x --chmod=1 <<E <<-\"F\" d", "#\\", "", "E", "y", "F", `CMD ["a","A\u0009"]`, "FROM b", `FROM c\`, "RM --force x"))
	wantText(t, read(t, "# escape=\\\nFROM a"), row("FROM a"))
	wantText(t, with(), row("FROM a"))
	wantText(t, with(api.Step{Op: api.OpCmd}, api.Step{Op: api.OpEntrypoint, Exec: []string{"a\nb"}}), row("FROM a", "CMD []", `ENTRYPOINT ["a\u000ab"]`))
	wantText(t, api.File{Escape: '\\', Args: []api.Step{{Op: api.OpArg, Pairs: pairs("A", "b")}}, Stages: []api.Stage{{Base: "a"}, {Base: "b", Name: "as"}}}, row("ARG A=b", "FROM a", "FROM b AS as"))
}

func TestEscapeAtTheEnd(t *testing.T) {
	for s, want := range map[string]string{
		`RM a\\`:                      `RM a\\`,
		`RM a\ \`:                     `RM a\ \`,
		"RM a\\\t\\\t ":               "RM a\\\t\\",
		"RM a\\\r\\":                  "RM a\\\r\\",
		`RM \\`:                       `RM \\`,
		`RM a\\\\`:                    `RM a\\\\`,
		"ENV A=b\\\\\n\n# r\n":        `ENV A=b\\`,
		`ARG A=\\`:                    `ARG A=\\`,
		`ARG A\\`:                     `ARG A\\`,
		`FROM b\\`:                    `FROM b\\`,
		`FROM b AS C\\`:               `FROM b AS c\\`,
		`FROM b AS \ \`:               `FROM b AS \ \`,
		"RM a\\\\\n \\\n\\":           `RM a\ \`,
		"RM a\\\n":                    `RM a`,
		"RM a`":                       "RM a`",
		"CMD [\"\\\\\"\\\n ] \\":      `CMD ["\\"]`,
		`COPY a b\\`:                  `COPY a b\\`,
		`LABEL A=b \=\\`:              `LABEL A=b \=\\`,
		"RM a\\\\\n\\\n  b":           `RM a\  b`,
		"RM 'a\\\\' \"\\\\\" b\\\\\\": `RM 'a\\' "\\" b\\\`,
	} {
		wantText(t, read(t, "FROM scratch\n"+s), row("FROM scratch", want))
	}
	wantText(t, read(t, "# escape=`\nFROM a\nRM a\\\nRM b`\\\\`"), row("# escape=`", "FROM a", `RM a\`, "RM b`\\\\"))
	wantText(t, read(t, "# escape=`\nFROM a\nRM a``"), row("# escape=`", "FROM a", "RM a``"))
	wantText(t, read(t, "# escape=`\nFROM a\nRM a` `"), row("# escape=`", "FROM a", "RM a` `"))
}

func TestEscapeInTheMidst(t *testing.T) {
	for _, word := range []string{`a\`, `a\ `, "a\\\t", `\`, `a\\\`} {
		step := api.Step{Op: api.OpRm, Words: []string{word}}
		wantText(t, with(step), row("FROM a", "RM "+word+`\`))
		for _, behind := range []api.Step{{Op: api.OpUser, Words: []string{"u"}}, step, {Op: api.OpCmd}, {Op: api.OpRm, Words: []string{`\`}}} {
			wantError(t, with(step, behind), api.ErrForm)
		}
		wantError(t, api.File{Escape: '\\', Stages: []api.Stage{{Base: "a", Steps: []api.Step{step}}, {Base: "b"}}}, api.ErrForm)
		wantError(t, api.File{Escape: '\\', Stages: []api.Stage{{Base: "a", Name: word}, {Base: "b"}}}, api.ErrForm)
		wantError(t, api.File{Escape: '\\', Args: []api.Step{{Op: api.OpArg, Pairs: pairs("A", word)}}, Stages: []api.Stage{{Base: "b"}}}, api.ErrForm)
		wantText(t, api.File{Escape: '\\', Stages: []api.Stage{{Base: "a"}, {Base: word}}}, row("FROM a", "FROM "+word+`\`))
	}
}

// long is a file whose text has so many bytes, if the base has no escape at its end.
func long(bytes int, end string) api.File {
	return api.File{Escape: '\\', Stages: []api.Stage{{Base: strings.Repeat("b", bytes-len("FROM \n")-len(end)) + end}}}
}

func TestTooLong(t *testing.T) {
	most := long(api.MaxSource, "")
	wantText(t, most, "FROM "+most.Stages[0].Base+"\n")
	wantError(t, long(api.MaxSource+1, ""), api.ErrMany)
	wantError(t, long(api.MaxSource, `\`), api.ErrMany)
	wantText(t, long(api.MaxSource-1, `\`), "FROM "+long(api.MaxSource-1, "").Stages[0].Base[1:]+`\\`+"\n")
	wantError(t, long(api.MaxSource, "'"), api.ErrForm)
	wantError(t, long(api.MaxSource+1, "'"), api.ErrMany)
	for _, escape := range []byte("x\x00\x0b\xff=\"]") {
		end := string([]byte{escape})
		for _, blank := range []string{"", " ", "\t\r", " \n "} {
			f, g := long(api.MaxSource-1, end+blank), long(api.MaxSource, end+blank)
			f.Escape, g.Escape = escape, escape
			wantError(t, f, api.ErrForm)
			if strings.Contains(blank, "\n") {
				wantError(t, g, api.ErrForm)
			} else {
				wantError(t, g, api.ErrMany)
			}
		}
	}
	for _, blank := range []byte(" \t\r") {
		f := long(api.MaxSource, string([]byte{blank}))
		f.Escape = blank
		wantError(t, f, api.ErrForm)
	}
	ticked := long(api.MaxSource-len("# escape=`\n"), "")
	ticked.Escape = '`'
	wantText(t, ticked, "# escape=`\nFROM "+ticked.Stages[0].Base+"\n")
	ticked.Stages[0].Base += "b"
	wantError(t, ticked, api.ErrMany)
}

func TestTooLongOfParts(t *testing.T) {
	none := func(count int) []api.Step { return make([]api.Step, count) }
	wantError(t, api.File{Args: none(api.MaxSource)}, api.ErrForm)
	wantError(t, api.File{Args: none(api.MaxSource + 1)}, api.ErrMany)
	wantError(t, api.File{Args: none(api.MaxSource - 6), Stages: []api.Stage{{}}}, api.ErrForm)
	wantError(t, api.File{Args: none(api.MaxSource - 5), Stages: []api.Stage{{}}}, api.ErrMany)
	wantError(t, api.File{Stages: []api.Stage{{Name: "x", Steps: none(api.MaxSource - 11)}}}, api.ErrForm)
	wantError(t, api.File{Stages: []api.Stage{{Name: "x", Steps: none(api.MaxSource - 10)}}}, api.ErrMany)
	for _, part := range []int{1, 0} {
		text := strings.Repeat("x", api.MaxSource-len("FROM a\n")-len("COPY <<E d\n")-len("\nE\n")+part) + "\n"
		copies := with(api.Step{Op: api.OpCopy, Words: []string{"<<E", "d"}, Docs: []api.Doc{{Name: "E", Text: text}}})
		if part == 1 {
			wantError(t, copies, api.ErrMany)
			copies.Stages[0].Steps[0].Op, copies.Stages[0].Steps[0].Docs[0].Text = api.OpAdd, text+text
			wantError(t, copies, api.ErrForm)
		} else {
			wantText(t, copies, "FROM a\nCOPY <<E d\n"+text+"E\n")
		}
	}
	docs := make([]api.Doc, api.MaxSource-len("FROM a\nCOPY\n"))
	wantError(t, with(api.Step{Op: api.OpCopy, Docs: docs}), api.ErrForm)
	wantError(t, with(api.Step{Op: api.OpCopy, Docs: append(docs, api.Doc{})}), api.ErrMany)
	wantError(t, with(api.Step{Op: api.OpCmd, Exec: []string{strings.Repeat("\x00", api.MaxSource/6)}}), api.ErrMany)
	grown := read(t, "FROM a\nCMD [\""+strings.Repeat(`\n`, api.MaxSource/6)+`"]`)
	wantError(t, grown, api.ErrMany)
}

func TestLinesOfNumbersHaveNoBearing(t *testing.T) {
	s := row("ARG A", "FROM a AS b", "COPY <<E <<-'F' d", "x", "E", "y", "F", "RM a")
	f := read(t, s)
	wantText(t, f, s)
	for _, line := range []int{0, -1, 1, 99, math.MaxInt, math.MinInt} {
		f.Args[0].Line, f.Stages[0].Line = line, line-1
		copies := &f.Stages[0].Steps[0]
		copies.Line, copies.Docs[0].Line, copies.Docs[1].Line = line+1, line, -line
		wantText(t, f, s)
	}
}

func TestEmptyLists(t *testing.T) {
	empty := api.Step{Op: api.OpCmd, Pairs: []api.Pair{}, Words: []string{}, Docs: []api.Doc{}, Exec: []string{}}
	wantText(t, with(empty), row("FROM a", "CMD []"))
	wantText(t, api.File{Escape: '\\', Args: []api.Step{}, Stages: []api.Stage{{Base: "a", Steps: []api.Step{}}}}, row("FROM a"))
}

func TestFilesThatAreNone(t *testing.T) {
	wantError(t, api.File{}, api.ErrForm)
	for _, escape := range []byte("\\`") {
		wantError(t, api.File{Escape: escape}, api.ErrForm)
		wantError(t, api.File{Escape: escape, Args: []api.Step{{Op: api.OpArg, Bare: true, Pairs: pairs("A", "")}}}, api.ErrForm)
		for _, f := range []api.Stage{{}, {Name: "b"}, {Base: "a", Name: "B"}, {Base: "a", Name: "b c"}, {Base: "a", Name: " "}, {Base: "a AS b"}, {Base: " a"}, {Base: "a "}, {Base: "a\n"}, {Base: "a\nRM b"}, {Base: "'a"}, {Base: "a", Name: "\""}, {Base: "\xff"}, {Base: "a\r"}, {Base: "a", Name: "b\n"}} {
			wantError(t, api.File{Escape: escape, Stages: []api.Stage{f}}, api.ErrForm)
		}
	}
	for escape := range 256 {
		f := api.File{Escape: byte(escape), Stages: []api.Stage{{Base: "a"}}}
		if agrees(t, f) != (escape == '\\' || escape == '`') {
			t.Fatalf("the escape %d", escape)
		}
	}
}

func TestStepsThatAreNone(t *testing.T) {
	a, ab := []string{"a"}, []string{"a", "b"}
	doc := []api.Doc{{Name: "E", Text: "x\n"}}
	for i, s := range []api.Step{
		{Op: -1}, {Op: api.OpEntrypoint + 1, Words: a},
		{Op: api.OpRm}, {Op: api.OpRm, Words: []string{""}}, {Op: api.OpRm, Words: []string{"a", ""}}, {Op: api.OpRm, Words: []string{"a b"}}, {Op: api.OpRm, Words: []string{"--force"}}, {Op: api.OpRm, Words: []string{"--force", "a"}},
		{Op: api.OpRm, Words: []string{"a\n"}}, {Op: api.OpRm, Words: []string{"a\nRM b"}}, {Op: api.OpRm, Words: []string{"'"}}, {Op: api.OpRm, Words: []string{"a\r"}}, {Op: api.OpRm, Words: []string{"\xff"}}, {Op: api.OpRm, Words: []string{"\\ "}, Mode: "x"},
		{Op: api.OpRm, Words: a, Mode: "7"}, {Op: api.OpRm, Words: a, From: "x"}, {Op: api.OpRm, Words: a, Bare: true}, {Op: api.OpRm, Words: a, Pairs: pairs("A", "b")}, {Op: api.OpRm, Words: a, Exec: a}, {Op: api.OpRm, Words: a, Docs: doc},
		{Op: api.OpRm, Words: slices.Repeat(a, api.MaxWords)}, {Op: api.OpLink, Words: a}, {Op: api.OpLink, Words: []string{"a", "b", "c"}}, {Op: api.OpUser, Words: ab}, {Op: api.OpUser, Words: a, Force: true},
		{Op: api.OpCopy, Words: a}, {Op: api.OpCopy, Words: ab, Force: true}, {Op: api.OpCopy, Words: ab, From: "x y"}, {Op: api.OpCopy, Words: ab, Mode: "'"}, {Op: api.OpCopy, Words: []string{"--from=x", "a", "b"}}, {Op: api.OpCopy, Words: []string{"a", "<<E"}},
		{Op: api.OpCopy, Words: ab, From: "x --chmod=1"}, {Op: api.OpAdd, Words: ab, From: "x"}, {Op: api.OpMkdir, Words: a, Force: true}, {Op: api.OpMode, Words: ab, Mode: "1"},
		{Op: api.OpArg}, {Op: api.OpArg, Bare: true}, {Op: api.OpArg, Pairs: pairs("A", "b"), Bare: true}, {Op: api.OpArg, Pairs: pairs("A=b", ""), Bare: true}, {Op: api.OpArg, Pairs: pairs("A", "", "B", ""), Bare: true}, {Op: api.OpArg, Pairs: pairs("A", "1", "B", "2")},
		{Op: api.OpEnv}, {Op: api.OpEnv, Pairs: pairs("", "b")}, {Op: api.OpEnv, Pairs: pairs("A=b", "c")}, {Op: api.OpEnv, Pairs: pairs("A", "b c")}, {Op: api.OpEnv, Pairs: pairs("A", "b B=c")}, {Op: api.OpEnv, Pairs: pairs("A", "b"), Bare: true}, {Op: api.OpEnv, Pairs: pairs("A", "b"), Words: a},
		{Op: api.OpCmd, Words: a}, {Op: api.OpCmd, Exec: []string{"\xff"}}, {Op: api.OpCmd, Exec: slices.Repeat(a, api.MaxWords+1)}, {Op: api.OpCmd, Exec: a, Docs: doc}, {Op: api.OpEntrypoint, Mode: "1"},
	} {
		if _, no := plainFile(with(s)); no != api.ErrForm {
			t.Fatal(i)
		}
		wantError(t, with(s), api.ErrForm)
	}
	for _, s := range []api.Step{{Op: api.OpUser, Words: a}, {Op: api.OpArg, Pairs: pairs("A", "b"), Mode: "1"}, {Op: api.OpArg, Pairs: pairs("A=b", ""), Bare: true}, {Op: api.OpArg, Pairs: pairs("A", "b"), Docs: doc}} {
		wantError(t, api.File{Escape: '\\', Args: []api.Step{s}, Stages: []api.Stage{{Base: "a"}}}, api.ErrForm)
	}
}

func TestDocuments(t *testing.T) {
	words := []string{"<<E", "<<-'F'", "d"}
	right := []api.Doc{{Name: "E", Text: "E \n\tF\n"}, {Name: "F", Raw: true, Text: ""}}
	wantText(t, with(api.Step{Op: api.OpCopy, Words: words, Docs: right}), row("FROM a", "COPY <<E <<-'F' d", "E ", "\tF", "E", "F"))
	for _, docs := range [][]api.Doc{
		nil, right[:1], {right[1], right[0]}, append(slices.Clone(right), api.Doc{Name: "E"}),
		{{Name: "E", Raw: true}, right[1]}, {right[0], {Name: "F"}}, {{Name: "e"}, right[1]}, {{Name: "F"}, right[1]}, {{}, right[1]},
		{{Name: "E", Text: "x"}, right[1]}, {{Name: "E", Text: "E\n"}, right[1]}, {{Name: "E", Text: "x\r\n"}, right[1]}, {{Name: "E", Text: "x\xff\n"}, right[1]},
		{{Name: "E\r", Text: "x\n"}, right[1]}, {right[0], {Name: "\tF", Raw: true}}, {right[0], {Name: "F\n\t", Raw: true}}, {{Name: "E\nE", Text: "x\n"}, right[1]},
		{right[0], {Name: "F", Raw: true, Text: "\tx\n"}}, {right[0], {Name: "F", Raw: true, Text: "\tF\n"}},
	} {
		wantError(t, with(api.Step{Op: api.OpCopy, Words: words, Docs: docs}), api.ErrForm)
	}
	wantText(t, with(api.Step{Op: api.OpAdd, Words: words}), row("FROM a", "ADD <<E <<-'F' d"))
}

func TestLimits(t *testing.T) {
	a := api.Step{Op: api.OpUser, Words: []string{"u"}}
	wantText(t, with(slices.Repeat([]api.Step{a}, api.MaxSteps)...), "FROM a\n"+strings.Repeat("USER u\n", api.MaxSteps))
	wantError(t, with(slices.Repeat([]api.Step{a}, api.MaxSteps+1)...), api.ErrForm)
	stages := slices.Repeat([]api.Stage{{Base: "a"}}, api.MaxStages)
	wantText(t, api.File{Escape: '\\', Stages: stages}, strings.Repeat("FROM a\n", api.MaxStages))
	wantError(t, api.File{Escape: '\\', Stages: append(stages, stages[0])}, api.ErrForm)
	few := api.Step{Op: api.OpRm, Words: slices.Repeat([]string{"w"}, api.MaxWords-1)}
	wantText(t, with(few), "FROM a\nRM"+strings.Repeat(" w", api.MaxWords-1)+"\n")
	few.Force = true
	wantError(t, with(few), api.ErrForm)
	doc := api.Step{Op: api.OpCopy, Words: []string{"<<E", "d"}, Docs: []api.Doc{{Name: "E", Text: strings.Repeat("\n", api.MaxLines-3)}}}
	wantText(t, with(doc), "FROM a\nCOPY <<E d\n"+doc.Docs[0].Text+"E\n")
	doc.Docs[0].Text += "\n"
	wantError(t, with(doc), api.ErrForm)
}

// P17.3

func some(random *rand.Rand, list ...string) string { return list[random.Intn(len(list))] }

// wantThereAndBack fails unless what is read of the text is printed, and that is read as a file alike, of which File is the same; it tells whether the text was read.
func wantThereAndBack(t *testing.T, s string) bool {
	t.Helper()
	f, err := parse.File(s)
	if err != nil {
		return false
	}
	text, err := print.File(f)
	if err != nil {
		t.Fatalf("%q is read as %q, which is no file: %v", s, fmt.Sprint(f), err)
	}
	if text != plainText(f) {
		t.Fatalf("%q is printed as %q", s, text)
	}
	wantText(t, read(t, text), text)
	wantStanding(t, text)
	return true
}

// eachText calls f with all texts of so many of the pieces.
func eachText(pieces []string, count int, f func(s string)) {
	if count == 0 {
		f("")
		return
	}
	for _, p := range pieces {
		eachText(pieces, count-1, func(s string) { f(p + s) })
	}
}

func TestAllShortWordsThereAndBack(t *testing.T) {
	met := 0
	for count := range 5 {
		eachText([]string{"a", "\\", "`", `"`, "'", " ", "\r", "#", "\\\n"}, count, func(s string) {
			for _, ahead := range []string{"", "# escape=`\n"} {
				for _, line := range []string{"FROM b\nRM " + s, "FROM b\nENV A=" + s + "\nUSER u", "FROM b AS " + s} {
					if wantThereAndBack(t, ahead+line) {
						met++
					}
				}
			}
		})
	}
	if met < 10000 {
		t.Errorf("only %d were read", met)
	}
}

// randomSource is a build file, few lines of which are wrong.
func randomSource(random *rand.Rand) string {
	lines := []string{
		"FROM a", "from  $A aS  B", "FROM \\", "ARG A", "arg A=b", "ARG A='b c'", "ENV A=b B=", "ENV A=\\ \\", "LABEL \"x y\"='z' =", "WORKDIR a", "USER `u", "USER \\",
		"COPY a b", "COPY --chmod=1 --from=x\\  a b", "copy <<E d\nx\nE", "COPY <<E <<-'F' d\n# r\n\t\nE\n\ty\n\tF", "COPY <<-\"E\" \\\n# r\n d\n\t\t\\\n\tE", "ADD a <<E", "ADD --chmod=$A a b",
		"RM --force x", "RM x\\\r\\", "rm 'x\\' \\'", "MKDIR --mode='1' a a", "LINK '' b", "MODE 1 a", "EXPOSE 1 2/udp", "CMD []", "CMD [ \"a\" , \"\\u0041\\n\\/\" ]", "ENTRYPOINT [\"\u00e9\\\\\",\\\n\"`\"]", "# r", "", " \\", "`",
	}
	var s strings.Builder
	s.WriteString(some(random, "", "", "# escape=`\n", "# escape=\\\n", "\n"))
	s.WriteString(some(random, "", "ARG A\n", "ARG A\nARG B=\"\"\n") + some(random, "FROM a", "from b as c") + some(random, "", "\r", " ") + "\n")
	for range random.Intn(6) {
		s.WriteString(some(random, "", "", " ", "\t") + some(random, lines...) + some(random, "\n", "\n", "\n", "\r\n", " \n", "\\\n", "`\n", "\\ \n"))
	}
	return s.String()
}

func TestRandomSourcesThereAndBack(t *testing.T) {
	random := rand.New(rand.NewSource(17))
	met := 0
	for range 60000 {
		if wantThereAndBack(t, randomSource(random)) {
			met++
		}
	}
	if met < 10000 {
		t.Errorf("only %d were read", met)
	}
}

// P17.4

// wantStanding fails unless each line of a text that File answered is one of the file's, or stands in a document.
func wantStanding(t *testing.T, text string) {
	t.Helper()
	f := read(t, text)
	lines := strings.Split(strings.TrimSuffix(text, "\n"), "\n")
	next := 1
	stands := func(at int, line string) {
		t.Helper()
		if got := lines[at-1]; at != next || got != line && got != line+string([]byte{f.Escape}) {
			t.Fatalf("%q: line %d is %q, not %q", text, at, got, line)
		}
		next++
	}
	steps := func(list []api.Step) {
		for _, s := range list {
			stands(s.Line, print.Line(s))
			for _, d := range s.Docs {
				next += strings.Count(d.Text, "\n") + 1
			}
		}
	}
	if f.Escape == '`' {
		stands(1, "# escape=`")
	}
	steps(f.Args)
	for _, s := range f.Stages {
		if s.Name == "" {
			stands(s.Line, "FROM "+s.Base)
		} else {
			stands(s.Line, "FROM "+s.Base+" AS "+s.Name)
		}
		steps(s.Steps)
	}
	if next != len(lines)+1 {
		t.Fatalf("%q has %d lines, not %d", text, len(lines), next-1)
	}
}

// P17.5

func TestSameLinesOfReadSteps(t *testing.T) {
	random := rand.New(rand.NewSource(175))
	for _, escape := range []byte("\\`") {
		met := map[string]api.Step{}
		same := 0
		for range 30000 {
			f, err := parse.File(randomSource(random))
			if err != nil || f.Escape != escape {
				continue
			}
			for _, s := range append(f.Args, f.Stages[0].Steps...) {
				s.Line, s.Docs = 0, nil
				line := print.Line(s)
				other, there := met[line]
				met[line] = s
				if there && !plainAlike(with(s), with(other)) {
					t.Fatalf("%q is the line of %v and of %v", line, s, other)
				}
				if there {
					same++
				}
			}
		}
		if same < 1000 || len(met) < 50 {
			t.Errorf("only %d lines, %d of them again", len(met), same)
		}
	}
}

func TestFieldsWithoutBearing(t *testing.T) {
	random := rand.New(rand.NewSource(176))
	for range 40000 {
		s, other := randomStep(random), randomStep(random)
		line := print.Line(s)
		s.Line, s.Docs = other.Line, other.Docs
		switch s.Op {
		case api.OpArg:
			s.From, s.Mode, s.Force, s.Words, s.Exec = other.From, other.Mode, other.Force, other.Words, other.Exec
		case api.OpEnv, api.OpLabel:
			s.From, s.Mode, s.Force, s.Bare, s.Words, s.Exec = other.From, other.Mode, other.Force, other.Bare, other.Words, other.Exec
		case api.OpCopy:
			s.Force, s.Pairs, s.Bare, s.Exec = other.Force, other.Pairs, other.Bare, other.Exec
		case api.OpAdd, api.OpMkdir:
			s.From, s.Force, s.Pairs, s.Bare, s.Exec = other.From, other.Force, other.Pairs, other.Bare, other.Exec
		case api.OpRm:
			s.From, s.Mode, s.Pairs, s.Bare, s.Exec = other.From, other.Mode, other.Pairs, other.Bare, other.Exec
		case api.OpCmd, api.OpEntrypoint:
			s.From, s.Mode, s.Force, s.Pairs, s.Bare, s.Words = other.From, other.Mode, other.Force, other.Pairs, other.Bare, other.Words
		default:
			s.From, s.Mode, s.Force, s.Pairs, s.Bare, s.Exec = other.From, other.Mode, other.Force, other.Pairs, other.Bare, other.Exec
		}
		wantLine(t, s, line)
	}
}

// Files that nobody read, against the second telling.

// randomStep is any step.
func randomStep(random *rand.Rand) api.Step {
	text := func() string {
		return some(random, "", "", "a", "b", "x y", `\`, "`", `a\ `, "'", `"q r"`, "--force", "--from=x", "<<E", "<<-'F'", "=", "A=b", "\n", "\r", "\xff", "é", "#")
	}
	texts := func() []string {
		var list []string
		for range random.Intn(4) {
			list = append(list, text())
		}
		return list
	}
	s := api.Step{Op: api.Op(random.Intn(17) - 1), Line: random.Intn(9), Words: texts(), Exec: texts(), From: text(), Mode: text(), Force: random.Intn(2) > 0, Bare: random.Intn(2) > 0}
	for range random.Intn(3) {
		s.Pairs = append(s.Pairs, api.Pair{Key: text(), Val: text()})
	}
	for range random.Intn(3) {
		s.Docs = append(s.Docs, randomDoc(random))
	}
	return s
}

func randomDoc(random *rand.Rand) api.Doc {
	return api.Doc{Name: some(random, "E", "E", "F", "", "a b"), Raw: random.Intn(2) > 0, Line: random.Intn(9), Text: some(random, "", "x\n", "\tx\n", "x", "E\n", "\n")}
}

// changed is the step with something else in a field.
func changed(random *rand.Rand, s api.Step) api.Step {
	other := randomStep(random)
	switch random.Intn(12) {
	case 0:
		s.Op = other.Op
	case 1:
		s.From = other.From
	case 2:
		s.Mode = other.Mode
	case 3:
		s.Force = !s.Force
	case 4:
		s.Bare = !s.Bare
	case 5:
		s.Pairs = other.Pairs
	case 6:
		s.Words = other.Words
	case 7:
		s.Docs = other.Docs
	case 8:
		s.Exec = other.Exec
	case 9:
		s.Words = append(slices.Clone(s.Words), some(random, "a", `\`, "<<E", ""))
	case 10:
		if len(s.Docs) > 0 {
			s.Docs = append(slices.Clone(s.Docs[1:]), randomDoc(random))
		}
	case 11:
		s.Line = other.Line
	}
	return s
}

func TestRandomFiles(t *testing.T) {
	random := rand.New(rand.NewSource(172))
	taken, refused := 0, 0
	for range 60000 {
		f, err := parse.File(randomSource(random))
		if err != nil {
			continue
		}
		switch random.Intn(9) {
		case 0:
			f.Escape = some(random, "\\", "`", "x", "]", "\x00")[0]
		case 1:
			f.Args, f.Stages[0].Steps = f.Stages[0].Steps, f.Args
		case 2:
			f.Stages[0].Name = some(random, "", "x", "X", `\`, "x y", "as")
		case 3:
			f.Stages[len(f.Stages)-1].Base = some(random, "", "x", `\`, "x y", "`", "'", "x AS y")
		default:
			if steps := f.Stages[0].Steps; len(steps) > 0 {
				i := random.Intn(len(steps))
				steps[i] = changed(random, steps[i])
			}
		}
		if agrees(t, f) {
			taken++
		} else {
			refused++
		}
	}
	if taken < 4000 || refused < 4000 {
		t.Errorf("only %d files have a text, %d have none", taken, refused)
	}
}

func TestRandomSteps(t *testing.T) {
	random := rand.New(rand.NewSource(173))
	for range 40000 {
		f := with(randomStep(random))
		if random.Intn(2) > 0 {
			f.Stages[0].Steps = append(f.Stages[0].Steps, randomStep(random))
		}
		agrees(t, f)
	}
}

// R4, R5

// roomy is a list with something behind its end.
func roomy[T any](list []T, behind T) []T {
	return append(slices.Clone(list), behind, behind)[: len(list) : len(list)+2]
}

// roomyFile is a file of which each list has something behind its end.
func roomyFile(f api.File) api.File {
	steps := func(list []api.Step) []api.Step {
		var out []api.Step
		for _, s := range list {
			s.Pairs, s.Words, s.Exec = roomy(s.Pairs, api.Pair{Key: "spare"}), roomy(s.Words, "spare"), roomy(s.Exec, "spare")
			s.Docs = roomy(s.Docs, api.Doc{Name: "spare"})
			out = append(out, s)
		}
		return roomy(out, api.Step{Mode: "spare"})
	}
	var stages []api.Stage
	for _, s := range f.Stages {
		s.Steps = steps(s.Steps)
		stages = append(stages, s)
	}
	f.Args, f.Stages = steps(f.Args), roomy(stages, api.Stage{Base: "spare"})
	return f
}

// allOf tells all that a file holds, the spare room of its lists too.
func allOf(f api.File) string {
	told := fmt.Sprintf("%#v", f)
	steps := func(list []api.Step) {
		for _, s := range list[:cap(list)] {
			told += fmt.Sprintf("%#v %q %q %q %#v", s, s.Pairs[:cap(s.Pairs)], s.Words[:cap(s.Words)], s.Exec[:cap(s.Exec)], s.Docs[:cap(s.Docs)])
		}
	}
	steps(f.Args)
	for _, s := range f.Stages[:cap(f.Stages)] {
		told += fmt.Sprintf("%#v", s)
		steps(s.Steps)
	}
	return told
}

func TestNothingHandedInChanges(t *testing.T) {
	random := rand.New(rand.NewSource(177))
	for range 3000 {
		f, err := parse.File(randomSource(random))
		if err != nil {
			continue
		}
		for range random.Intn(3) {
			f.Stages[0].Steps = append(f.Stages[0].Steps, randomStep(random))
		}
		f = roomyFile(f)
		told := allOf(f)
		text, err := print.File(f)
		for _, s := range append(slices.Clone(f.Args), f.Stages[0].Steps...) {
			print.Line(s)
		}
		if now := allOf(f); now != told {
			t.Fatalf("%s became %s", told, now)
		}
		if again, e := print.File(f); again != text || (e == nil) != (err == nil) {
			t.Fatalf("%q, and then %q", text, again)
		}
	}
}

// R1: great files and lines end in time.

func TestGreatFiles(t *testing.T) {
	great := strings.Repeat("\x01\"é", 1<<18)
	if line := print.Line(api.Step{Op: api.OpCmd, Exec: []string{great, great}}); len(line) != len(`CMD ["",""]`)+20<<18 || !utf8.ValidString(line) {
		t.Fatal(len(line))
	}
	for _, op := range ops {
		s := fullStep(op)
		s.Words, s.Exec, s.Pairs = slices.Repeat(s.Words, 1<<16), slices.Repeat(s.Exec, 1<<16), slices.Repeat(s.Pairs, 1<<16)
		wantError(t, with(s, s), api.ErrMany)
	}
	wantError(t, api.File{Stages: make([]api.Stage, 1<<20)}, api.ErrMany)
	wantError(t, api.File{Args: make([]api.Step, 1<<20)}, api.ErrMany)
	wantError(t, with(api.Step{Op: api.OpCopy, Docs: make([]api.Doc, 1<<20)}), api.ErrMany)
	wantError(t, with(api.Step{Op: api.OpRm, Exec: make([]string, 1<<20)}), api.ErrForm)
}
