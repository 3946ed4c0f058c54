package check_test

import (
	"errors"
	"regexp"
	"strings"

	"strata/api"
	"strata/expand"
)

// A second telling of the chapter: all that is wrong is put into a list, of which the first one counts; what an instruction may have stands in a table, and forms are expressions.

// rule is what the chapter says of an instruction.
type rule struct {
	has    string         // the fields that a step may have
	counts *regexp.Regexp // of a row of as many `a` as there are pairs or words
	key    *regexp.Regexp
}

var (
	none     = regexp.MustCompile(`^$`)
	one      = regexp.MustCompile(`^a$`)
	two      = regexp.MustCompile(`^aa$`)
	oneOn    = regexp.MustCompile(`^a+$`)
	twoOn    = regexp.MustCompile(`^aa+$`)
	variable = regexp.MustCompile(`^[A-Za-z_][A-Za-z0-9_]*$`)
	labelKey = regexp.MustCompile(`^[A-Za-z0-9.\-_/]+$`)
	stage    = regexp.MustCompile(`^[a-z][a-z0-9\-_.]{0,95}$`)
	number   = regexp.MustCompile(`^[0-9]+$`)
	mode     = regexp.MustCompile(`^[0-7]{1,4}$`)
	opening  = regexp.MustCompile(`^<<-?(?:([A-Za-z0-9_]{1,96})|"([A-Za-z0-9_]{1,96})"|'([A-Za-z0-9_]{1,96})')$`)
	image    = regexp.MustCompile(`^[a-z0-9]([a-z0-9._\-]*[a-z0-9])?(/[a-z0-9]([a-z0-9._\-]*[a-z0-9])?)*:[A-Za-z0-9_][A-Za-z0-9_.\-]*$`)
	untaken  = regexp.MustCompile(`^scratch(:.*)?$`)
)

var rules = map[api.Op]rule{
	api.OpArg:        {has: "pairs bare", counts: one, key: variable},
	api.OpEnv:        {has: "pairs", counts: oneOn, key: variable},
	api.OpLabel:      {has: "pairs", counts: oneOn, key: labelKey},
	api.OpWorkdir:    {has: "words", counts: one},
	api.OpCopy:       {has: "from mode words docs", counts: twoOn},
	api.OpAdd:        {has: "mode words", counts: twoOn},
	api.OpRm:         {has: "force words", counts: oneOn},
	api.OpMkdir:      {has: "mode words", counts: oneOn},
	api.OpLink:       {has: "words", counts: two},
	api.OpMode:       {has: "words", counts: twoOn},
	api.OpUser:       {has: "words", counts: one},
	api.OpExpose:     {has: "words", counts: oneOn},
	api.OpCmd:        {has: "exec", counts: none},
	api.OpEntrypoint: {has: "exec", counts: none},
}

// wrongs are numbers of what is wrong, in order.
type wrongs []api.Errno

func (w *wrongs) add(is bool, no api.Errno) {
	if is {
		*w = append(*w, no)
	}
}

// addWord adds how a text can't be expanded.
func (w *wrongs) addWord(expanding func(string, byte, []api.Pair) (string, error), text string, escape byte) {
	_, err := expanding(text, escape, nil)
	w.add(errors.Is(err, api.ErrQuote), api.ErrQuote)
	w.add(errors.Is(err, api.ErrForm), api.ErrForm)
}

// plainRef tells whether a text is a reference.
func plainRef(s string) bool {
	if !strings.Contains(s, ":") {
		s += ":latest"
	}
	return len(s) <= api.MaxName && image.MatchString(s) && !untaken.MatchString(s)
}

// textsOf are the texts of a step.
func textsOf(s api.Step) []string {
	texts := []string{s.From, s.Mode}
	for _, pair := range s.Pairs {
		texts = append(texts, pair.Key, pair.Val)
	}
	for _, doc := range s.Docs {
		texts = append(texts, doc.Name, doc.Text)
	}
	return append(append(texts, s.Words...), s.Exec...)
}

// isPlain tells whether all texts are UTF-8: what isn't is another text once its characters were taken.
func isPlain(texts ...string) bool {
	for _, text := range texts {
		if string([]rune(text)) != text {
			return false
		}
	}
	return true
}

// plainStep is all that is wrong with a step.
func plainStep(s api.Step, escape byte) wrongs {
	its, known := rules[s.Op]
	if !known {
		return wrongs{api.ErrOp}
	}
	has := func(field string) bool { return strings.Contains(" "+its.has+" ", " "+field+" ") }
	var w wrongs
	w.add(!isPlain(textsOf(s)...), api.ErrText)
	w.add(s.From != "" && !has("from") || s.Mode != "" && !has("mode") || s.Force && !has("force"), api.ErrFlag)
	w.add(len(s.Pairs) > 0 && !has("pairs"), api.ErrForm)
	w.add(len(s.Words) > 0 && !has("words"), api.ErrForm)
	w.add(len(s.Docs) > 0 && !has("docs"), api.ErrForm)
	w.add(len(s.Exec) > 0 && !has("exec"), api.ErrForm)
	w.add(s.Bare && !has("bare"), api.ErrForm)
	values := ""
	for _, pair := range s.Pairs {
		values += pair.Val
	}
	w.add(s.Bare && values != "", api.ErrForm)
	row := strings.Repeat("a", max(len(s.Pairs), len(s.Words)))
	w.add(!its.counts.MatchString(row) && its.counts.MatchString(row+"a"), api.ErrShort)
	w.add(!its.counts.MatchString(row) && its.counts.MatchString(row+"aa"), api.ErrShort)
	w.add(!its.counts.MatchString(row), api.ErrLong)
	w.add(len(row) > api.MaxWords || len(s.Exec) > api.MaxWords, api.ErrMany)
	isStage := stage.MatchString(s.From) && !untaken.MatchString(s.From)
	w.add(s.From != "" && !isStage && !number.MatchString(s.From) && !plainRef(s.From), api.ErrRef)
	w.add(s.Mode != "" && !mode.MatchString(s.Mode), api.ErrMode)
	for _, pair := range s.Pairs {
		w.add(its.key == nil || !its.key.MatchString(pair.Key), api.ErrName)
		w.addWord(expand.Word, pair.Val, escape)
	}
	return append(w, plainWords(s, escape)...)
}

// plainWords is all that is wrong with a step's words and documents.
func plainWords(s api.Step, escape byte) wrongs {
	var w wrongs
	opened := 0
	for i, word := range s.Words {
		if s.Op != api.OpCopy || len(word) < 2 || word[:2] != "<<" {
			w.addWord(expand.Word, word, escape)
			continue
		}
		w.add(i == len(s.Words)-1, api.ErrForm)
		said := opening.FindStringSubmatch(word)
		w.add(said == nil || opened >= len(s.Docs), api.ErrDoc)
		if said != nil && opened < len(s.Docs) {
			doc := s.Docs[opened]
			w.add(doc.Name != said[1]+said[2]+said[3] || doc.Raw != (said[1] == ""), api.ErrDoc)
		}
		opened++
	}
	w.add(len(s.Docs) > opened, api.ErrDoc)
	for _, doc := range s.Docs {
		if !doc.Raw {
			w.addWord(expand.Doc, doc.Text, escape)
		}
	}
	return w
}

// plainStage is all that is wrong with what a stage begins with, where those stand ahead of it.
func plainStage(s api.Stage, ahead []api.Stage, escape byte) wrongs {
	var w wrongs
	w.add(!isPlain(s.Base, s.Name), api.ErrText)
	w.add(s.Base == "", api.ErrShort)
	w.addWord(expand.Word, s.Base, escape)
	w.add(s.Name != "" && (!stage.MatchString(s.Name) || s.Name == "scratch"), api.ErrName)
	for _, other := range ahead {
		w.add(s.Name != "" && other.Name == s.Name, api.ErrTwice)
	}
	return w
}

// plainFile is the first thing that is wrong with a file; its No is OK, if nothing is.
func plainFile(f api.File) api.Fault {
	var all []api.Fault
	add := func(line int, list wrongs) {
		for _, no := range list {
			all = append(all, api.Fault{No: no, Line: line})
		}
	}
	var w wrongs
	w.add(!strings.Contains("\\`", string(rune(f.Escape))), api.ErrArg)
	w.add(len(f.Stages) == 0, api.ErrShort)
	steps := append([]api.Step{}, f.Args...)
	for _, s := range f.Stages {
		steps = append(steps, s.Steps...)
	}
	w.add(len(f.Stages) > api.MaxStages || len(steps) > api.MaxSteps, api.ErrMany)
	add(0, w)
	for _, s := range f.Args {
		if s.Op != api.OpArg {
			add(s.Line, wrongs{api.ErrOp})
		}
		add(s.Line, plainStep(s, f.Escape))
	}
	for i, s := range f.Stages {
		add(s.Line, plainStage(s, f.Stages[:i], f.Escape))
		for _, step := range s.Steps {
			add(step.Line, plainStep(step, f.Escape))
		}
	}
	return append(all, api.Fault{})[0]
}
