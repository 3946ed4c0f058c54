package parse_test

import (
	"regexp"
	"strings"

	"strata/api"
	"strata/json"
	"strata/lex"
	"strata/words"
)

// A second telling of the chapter: what it says of the instructions stands in one table, forms are expressions, and the first thing that is wrong ends it all by a panic.

// rule is what the chapter says of an instruction.
type rule struct {
	op     api.Op
	counts *regexp.Regexp // of a row of as many `a` as there may be arguments
	flags  *regexp.Regexp
	pairs  *regexp.Regexp
	exec   bool
}

var (
	headRow  = regexp.MustCompile(`(?s)^([ \t\r]*)([^ \t\r]+)([ \t\r]*)(.*?)[ \t\r]*$`)
	pairRow  = regexp.MustCompile(`(?s)^([^=]+)(=)(.*)$`)
	bareRow  = regexp.MustCompile(`(?s)^([^=]+)(?:(=)(.*))?$`)
	flagLike = regexp.MustCompile(`^--`)
	one      = regexp.MustCompile(`^a$`)
	two      = regexp.MustCompile(`^aa$`)
	oneOn    = regexp.MustCompile(`^a+$`)
	twoOn    = regexp.MustCompile(`^aa+$`)
)

var rules = map[string]rule{
	"FROM":       {counts: regexp.MustCompile(`^(a|aaa)$`)},
	"ARG":        {op: api.OpArg, counts: one, pairs: bareRow},
	"ENV":        {op: api.OpEnv, counts: oneOn, pairs: pairRow},
	"LABEL":      {op: api.OpLabel, counts: oneOn, pairs: pairRow},
	"WORKDIR":    {op: api.OpWorkdir, counts: one},
	"COPY":       {op: api.OpCopy, counts: twoOn, flags: regexp.MustCompile(`(?s)^(--from|--chmod)=(.+)$`)},
	"ADD":        {op: api.OpAdd, counts: twoOn, flags: regexp.MustCompile(`(?s)^(--chmod)=(.+)$`)},
	"RM":         {op: api.OpRm, counts: oneOn, flags: regexp.MustCompile(`^(--force)()$`)},
	"MKDIR":      {op: api.OpMkdir, counts: oneOn, flags: regexp.MustCompile(`(?s)^(--mode)=(.+)$`)},
	"LINK":       {op: api.OpLink, counts: two},
	"MODE":       {op: api.OpMode, counts: twoOn},
	"USER":       {op: api.OpUser, counts: one},
	"EXPOSE":     {op: api.OpExpose, counts: oneOn},
	"CMD":        {op: api.OpCmd, exec: true},
	"ENTRYPOINT": {op: api.OpEntrypoint, exec: true},
}

// told is what File answers.
type told struct {
	file  api.File
	fault api.Fault
}

// plainFile is File.
func plainFile(s string) (answer told) {
	defer func() {
		if fault, is := recover().(api.Fault); is {
			answer = told{fault: fault}
		}
	}()
	escape, lines, err := lex.Lines(s)
	if err != nil {
		panic(err)
	}
	p := teller{file: api.File{Escape: escape}}
	for _, l := range lines {
		p.line = l
		p.tell()
	}
	if len(p.file.Stages) == 0 {
		panic(api.Fault{No: api.ErrShort})
	}
	return told{file: p.file}
}

type teller struct {
	file  api.File
	line  api.Line
	count int
}

// refuse ends all, unless something is right.
func (p *teller) refuse(right bool, no api.Errno, at int) {
	if !right {
		row, col := lex.Place(p.line, at)
		panic(api.Fault{No: no, Line: row, At: col})
	}
}

// isWord tells whether a text is a word of capital letters, but for the case of its letters.
func isWord(s, word string) bool {
	for i := range len(s) {
		if len(s) != len(word) || s[i] != word[i] && s[i] != word[i]+32 {
			return false
		}
	}
	return s != ""
}

func (p *teller) tell() {
	parts := headRow.FindStringSubmatch(p.line.Text)
	head, begin := len(parts[1]), len(parts[1])+len(parts[2])+len(parts[3])
	name := ""
	for word := range rules {
		if isWord(parts[2], word) {
			name = word
		}
	}
	p.refuse(name != "", api.ErrOp, head)
	p.refuse(name == "FROM" || name == "ARG" || len(p.file.Stages) > 0, api.ErrStage, head)
	if name == "FROM" {
		p.refuse(len(p.file.Stages) < api.MaxStages, api.ErrMany, head)
	} else {
		p.count++
		p.refuse(p.count <= api.MaxSteps, api.ErrMany, head)
	}
	r := rules[name]
	step := api.Step{Op: r.op, Line: p.line.Line}
	if r.exec {
		step.Exec = p.exec(parts[4], begin)
		p.put(step)
		return
	}
	list, err := words.Split(p.line.Text, p.file.Escape)
	if err != nil {
		p.refuse(false, api.ErrQuote, err.(api.Fault).At)
	}
	if len(list) > api.MaxWords {
		p.refuse(false, api.ErrMany, list[api.MaxWords].At)
	}
	list = p.flags(r, list[1:], &step)
	p.counts(r, list, head)
	if name == "FROM" {
		p.from(list)
		return
	}
	p.arguments(r, list, &step)
	p.put(step)
}

func (p *teller) exec(rest string, begin int) []string {
	v, err := json.Parse(rest)
	if err != nil {
		fault := err.(api.Fault)
		p.refuse(false, fault.No, begin+fault.At)
	}
	p.refuse(v.Kind == api.JList, api.ErrForm, begin)
	var list []string
	for _, item := range v.Items {
		p.refuse(item.Kind == api.JText, api.ErrForm, begin)
		list = append(list, item.Text)
	}
	p.refuse(len(list) <= api.MaxWords, api.ErrMany, begin)
	return list
}

// flags takes the flags off the words.
func (p *teller) flags(r rule, list []api.Word, step *api.Step) []api.Word {
	met := ""
	for r.flags != nil && len(list) > 0 && flagLike.MatchString(list[0].Raw) {
		parts := r.flags.FindStringSubmatch(list[0].Raw)
		p.refuse(parts != nil, api.ErrFlag, list[0].At)
		p.refuse(!strings.Contains(met, parts[1]), api.ErrTwice, list[0].At)
		met += parts[1] + " "
		switch parts[1] {
		case "--from":
			step.From = parts[2]
		case "--force":
			step.Force = true
		default:
			step.Mode = parts[2]
		}
		list = list[1:]
	}
	return list
}

// counts refuses too few arguments, and the first one that no row of arguments may have.
func (p *teller) counts(r rule, list []api.Word, head int) {
	may := func(n int) bool {
		return r.counts.MatchString(strings.Repeat("a", n))
	}
	if may(len(list)) {
		return
	}
	for n := len(list) - 1; n > 0; n-- {
		if more := len(list) + 1; may(n) && !may(more) {
			p.refuse(false, api.ErrLong, list[n].At)
		}
	}
	p.refuse(false, api.ErrShort, head)
}

func (p *teller) from(list []api.Word) {
	stage := api.Stage{Line: p.line.Line, Base: list[0].Raw}
	if len(list) == 3 {
		p.refuse(isWord(list[1].Raw, "AS"), api.ErrForm, list[1].At)
		for _, b := range []byte(list[2].Raw) {
			if strings.IndexByte("ABCDEFGHIJKLMNOPQRSTUVWXYZ", b) >= 0 {
				b += 32
			}
			stage.Name += string([]byte{b})
		}
	}
	p.file.Stages = append(p.file.Stages, stage)
}

func (p *teller) arguments(r rule, list []api.Word, step *api.Step) {
	if r.pairs == nil {
		for _, w := range list {
			step.Words = append(step.Words, w.Raw)
		}
	}
	if r.op == api.OpCopy {
		last := list[len(list)-1]
		p.refuse(!strings.HasPrefix(last.Raw, "<<"), api.ErrForm, last.At)
		step.Docs = p.line.Docs
	}
	for _, w := range list {
		if r.pairs == nil {
			return
		}
		parts := r.pairs.FindStringSubmatch(w.Raw)
		p.refuse(parts != nil, api.ErrForm, w.At)
		step.Pairs = append(step.Pairs, api.Pair{Key: parts[1], Val: parts[3]})
		step.Bare = parts[2] == ""
	}
}

func (p *teller) put(step api.Step) {
	if len(p.file.Stages) == 0 {
		p.file.Args = append(p.file.Args, step)
		return
	}
	stage := &p.file.Stages[len(p.file.Stages)-1]
	stage.Steps = append(stage.Steps, step)
}
