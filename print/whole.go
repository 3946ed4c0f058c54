package print

import (
	"strings"

	"strata/api"
)

// blanks are the bytes that part words.
const blanks = " \t\r"

// printer puts lines together, up to the first byte too many: what stands behind that is of no use to anyone.
type printer struct {
	text   strings.Builder
	escape byte
}

// wholeText is the text of a file, or, if that is too long, a beginning of it that is too long as well.
func wholeText(f api.File) string {
	p := printer{escape: f.Escape}
	if f.Escape == '`' {
		p.put("# escape=`\n")
	}
	p.steps(f.Args)
	for _, stage := range f.Stages {
		p.line(stageLine(stage))
		p.steps(stage.Steps)
	}
	return p.text.String()
}

func (p *printer) put(texts ...string) {
	for _, text := range texts {
		if p.text.Len() > api.MaxSource {
			return
		}
		p.text.WriteString(text)
	}
}

// line puts a line. One that ends with the escape would go on: of two escapes the last one is taken away when it is read.
func (p *printer) line(line string) {
	p.put(line)
	said := strings.TrimRight(line, blanks)
	if said != "" && said[len(said)-1] == p.escape {
		p.put(said[len(said)-1:])
	}
	p.put("\n")
}

// steps puts the lines of steps, and behind each its documents.
func (p *printer) steps(steps []api.Step) {
	for _, step := range steps {
		p.line(Line(step))
		if step.Op != api.OpCopy {
			continue
		}
		for _, doc := range step.Docs {
			p.put(doc.Text, doc.Name, "\n")
		}
	}
}
