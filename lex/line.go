package lex

import (
	"strings"

	"strata/api"
)

// all takes the lines of the build file up to the file's end, each with its documents.
func (r *lineReader) all(escape byte) ([]api.Line, error) {
	var list []api.Line
	for {
		first, there := r.takeSaying()
		if !there {
			return list, nil
		}
		line := r.join(first, escape)
		if strings.Trim(line.Text, blanks) == "" {
			continue
		}
		docs, err := r.documents(line, escape)
		if err != nil {
			return nil, err
		}
		line.Docs = docs
		list = append(list, line)
	}
}

// join is the line of the build file that begins with a line of the file; it takes those to which that goes on.
func (r *lineReader) join(first fileLine, escape byte) api.Line {
	var text strings.Builder
	joined := api.Line{Line: first.number}
	here, begin := first, first.head()
	for {
		end, goesOn := here.end(escape)
		if begin < end {
			joined.Marks = append(joined.Marks, api.Mark{At: text.Len(), Line: here.number, Col: begin + 1})
			text.WriteString(here.text[begin:end])
		}
		if !goesOn {
			break
		}
		next, there := r.takeSaying()
		if !there {
			break
		}
		here, begin = next, 0
	}
	joined.Text = text.String()
	return joined
}
