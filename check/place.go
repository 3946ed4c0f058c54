package check

import (
	"errors"
	"unicode/utf8"

	"strata/api"
	"strata/expand"
)

// place is where the file is looked at.
type place struct {
	line   int // of a step or a stage, 0 of the file as a whole
	escape byte
}

// refuse gives up.
func (p place) refuse(no api.Errno) {
	panic(api.Fault{No: no, Line: p.line})
}

// refuseIf gives up, if something is wrong.
func (p place) refuseIf(wrong bool, no api.Errno) {
	if wrong {
		p.refuse(no)
	}
}

// refuseAs gives up with the number of what layer expand answered. How long a text is hangs on the variables, which aren't known here.
func (p place) refuseAs(err error) {
	var no api.Errno
	if errors.As(err, &no) {
		p.refuseIf(no != api.ErrMany, no)
	}
}

// readable wants texts of UTF-8.
func (p place) readable(texts ...string) {
	for _, text := range texts {
		p.refuseIf(!utf8.ValidString(text), api.ErrText)
	}
}

// word wants a word that can be expanded.
func (p place) word(raw string) {
	_, err := expand.Word(raw, p.escape, nil)
	p.refuseAs(err)
}

// document wants a document that can be expanded, if it ever is.
func (p place) document(doc api.Doc) {
	if doc.Raw {
		return
	}
	_, err := expand.Doc(doc.Text, p.escape, nil)
	p.refuseAs(err)
}
