package print_test

import (
	"fmt"
	"reflect"
	"regexp"
	"strings"

	"strata/api"
	"strata/parse"
)

// A second telling of the chapter: lines are templates, in which names stand for what a step has there; files are held against each other once their lines are taken out.

// templates are the lines of steps.
var templates = map[api.Op]string{
	api.OpArg: "ARG arg", api.OpEnv: "ENV pairs", api.OpLabel: "LABEL pairs", api.OpWorkdir: "WORKDIR words", api.OpUser: "USER words",
	api.OpLink: "LINK words", api.OpMode: "MODE words", api.OpExpose: "EXPOSE words", api.OpCopy: "COPY from chmod words",
	api.OpAdd: "ADD chmod words", api.OpMkdir: "MKDIR mode words", api.OpRm: "RM force words", api.OpCmd: "CMD exec", api.OpEntrypoint: "ENTRYPOINT exec",
}

var (
	named     = regexp.MustCompile(` [a-z]+`)
	lastBytes = regexp.MustCompile(`(?s)([^ \t\r])[ \t\r]*$`)
)

// plainLine is Line.
func plainLine(s api.Step) string {
	return named.ReplaceAllStringFunc(templates[s.Op], func(name string) string {
		line := ""
		switch {
		case name == " arg" && s.Bare:
			for _, p := range s.Pairs {
				line += " " + p.Key
			}
		case name == " arg" || name == " pairs":
			for _, p := range s.Pairs {
				line += fmt.Sprintf(" %s=%s", p.Key, p.Val)
			}
		case name == " words":
			for _, w := range s.Words {
				line += " " + w
			}
		case name == " exec":
			line = " [" + strings.Join(plainTexts(s.Exec), ",") + "]"
		case name == " force" && s.Force:
			line = " --force"
		case name == " from" && s.From != "":
			line = " --from=" + s.From
		case (name == " chmod" || name == " mode") && s.Mode != "":
			line = " --" + name[1:] + "=" + s.Mode
		}
		return line
	})
}

// plainTexts are texts in the form of JSON.
func plainTexts(texts []string) []string {
	var forms []string
	for _, text := range texts {
		form := ""
		for i := range len(text) {
			switch c := text[i]; {
			case c < 32:
				form += fmt.Sprintf(`\u%04x`, c)
			case strings.Contains(`"\`, text[i:i+1]):
				form += `\` + text[i:i+1]
			default:
				form += text[i : i+1]
			}
		}
		forms = append(forms, `"`+form+`"`)
	}
	return forms
}

// plainText is the text of a file.
func plainText(f api.File) string {
	text := ""
	add := func(line string) {
		text += line
		if last := lastBytes.FindStringSubmatch(line); last != nil && last[1] == string([]byte{f.Escape}) {
			text += last[1]
		}
		text += "\n"
	}
	steps := func(list []api.Step) {
		for _, s := range list {
			add(plainLine(s))
			for _, d := range s.Docs {
				if s.Op == api.OpCopy {
					text += d.Text + d.Name + "\n"
				}
			}
		}
	}
	if f.Escape == '`' {
		text = "# escape=`\n"
	}
	steps(f.Args)
	for _, s := range f.Stages {
		line := "FROM " + s.Base
		if s.Name != "" {
			line += " AS " + s.Name
		}
		add(line)
		steps(s.Steps)
	}
	return text
}

// withoutLines is a file of which all numbers of lines are taken out, and in which no list is nil.
func withoutLines(f api.File) api.File {
	steps := func(list []api.Step) []api.Step {
		out := []api.Step{}
		for _, s := range list {
			s.Line = 0
			docs := s.Docs
			s.Docs = []api.Doc{}
			for _, d := range docs {
				d.Line = 0
				s.Docs = append(s.Docs, d)
			}
			s.Pairs = append([]api.Pair{}, s.Pairs...)
			s.Words = append([]string{}, s.Words...)
			s.Exec = append([]string{}, s.Exec...)
			out = append(out, s)
		}
		return out
	}
	f.Args = steps(f.Args)
	stages := f.Stages
	f.Stages = []api.Stage{}
	for _, s := range stages {
		f.Stages = append(f.Stages, api.Stage{Base: s.Base, Name: s.Name, Steps: steps(s.Steps)})
	}
	return f
}

func plainAlike(a, b api.File) bool { return reflect.DeepEqual(withoutLines(a), withoutLines(b)) }

// plainFile is File.
func plainFile(f api.File) (string, api.Errno) {
	text := plainText(f)
	if len(text) > api.MaxSource {
		return "", api.ErrMany
	}
	if read, err := parse.File(text); err != nil || !plainAlike(read, f) {
		return "", api.ErrForm
	}
	return text, api.OK
}
