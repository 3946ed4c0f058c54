package expand

import (
	"strings"

	"strata/api"
)

// manner is how bytes are read.
type manner byte

const (
	plain    manner = iota // a word
	document               // a document
	braced                 // plain text in the braces of a variable
	quoted                 // between " quotes
)

// opensQuotes tells whether ' and " quotes begin in text of this manner.
func (m manner) opensQuotes() bool { return m == plain || m == braced }

// escapes tells whether the escape takes the byte behind it along; where it doesn't, it stands for itself.
func (m manner) escapes(behind, escape byte) bool {
	switch m {
	case document:
		return behind == '$' || behind == escape
	case quoted:
		return behind == '$' || behind == escape || behind == '"'
	}
	return true
}

// reader takes a text apart. What is open it keeps in a list, so that texts may stand in one another however deep.
type reader struct {
	text   string
	escape byte
	at     int
	open   []manner // of the whole text, and of all that is open there
}

func newReader(s string, escape byte, m manner) *reader {
	return &reader{text: s, escape: escape, open: []manner{m}}
}

// each hands on the pieces of the text in order, up to the first thing that is wrong.
func (r *reader) each(do func(p piece)) error {
	for r.at < len(r.text) {
		p, err := r.take()
		if err != nil {
			return err
		}
		do(p)
	}
	return r.unclosed()
}

// now is the manner in which the next byte is read.
func (r *reader) now() manner { return r.open[len(r.open)-1] }

func (r *reader) enter(m manner) { r.open = append(r.open, m) }

func (r *reader) leave() { r.open = r.open[:len(r.open)-1] }

// unclosed tells what was opened last and is open at the end of the text.
func (r *reader) unclosed() error {
	switch r.now() {
	case quoted:
		return api.ErrQuote
	case braced:
		return api.ErrForm
	}
	return nil
}

// take is the piece at the next byte.
func (r *reader) take() (piece, error) {
	b, now := r.text[r.at], r.now()
	switch {
	case b == r.escape:
		return r.takeEscape(now), nil
	case b == '$':
		return r.takeDollar()
	case b == '"' && now == quoted:
		r.leave()
		return r.takeMark(literal("")), nil
	case b == '"' && now.opensQuotes():
		r.enter(quoted)
		return r.takeMark(literal("")), nil
	case b == '\'' && now.opensQuotes():
		return r.takeSingle()
	case b == '}' && now == braced:
		r.leave()
		return r.takeMark(ending{}), nil
	}
	return r.takeRun(), nil
}

// takeMark is a piece of one byte.
func (r *reader) takeMark(p piece) piece {
	r.at++
	return p
}

// takeBytes is the next n bytes.
func (r *reader) takeBytes(n int) literal {
	r.at += n
	return literal(r.text[r.at-n : r.at])
}

// takeRun is the next byte, and those behind it that do nothing, however they are read.
func (r *reader) takeRun() piece {
	end := r.at + 1
	for end < len(r.text) && !r.mayAct(r.text[end]) {
		end++
	}
	return r.takeBytes(end - r.at)
}

func (r *reader) mayAct(b byte) bool {
	switch b {
	case r.escape, '$', '"', '\'', '}':
		return true
	}
	return false
}

// takeEscape is the byte that the escape keeps, or the escape itself.
func (r *reader) takeEscape(now manner) piece {
	behind := r.at + 1
	if behind == len(r.text) || !now.escapes(r.text[behind], r.escape) {
		return r.takeBytes(1)
	}
	r.at++
	return r.takeBytes(1)
}

// takeSingle is what stands between two ' quotes.
func (r *reader) takeSingle() (piece, error) {
	r.at++
	length := strings.IndexByte(r.text[r.at:], '\'')
	if length < 0 {
		return nil, api.ErrQuote
	}
	p := r.takeBytes(length)
	r.at++
	return p, nil
}

// takeDollar is a variable, or a $ that is itself.
func (r *reader) takeDollar() (piece, error) {
	rest := r.text[r.at+1:]
	if strings.HasPrefix(rest, "{") {
		return r.takeBraces(rest[1:])
	}
	name := leadingName(rest)
	if name == "" {
		return r.takeBytes(1), nil
	}
	r.at += len("$") + len(name)
	return variable(name), nil
}

// takeBraces is a variable in braces, of which the rest of the text stands behind the {; or it is what begins there.
func (r *reader) takeBraces(rest string) (piece, error) {
	name := leadingName(rest)
	if name == "" {
		return nil, api.ErrForm
	}
	r.at += len("${") + len(name)
	rest = rest[len(name):]
	switch {
	case strings.HasPrefix(rest, "}"):
		return r.takeMark(variable(name)), nil
	case strings.HasPrefix(rest, ":-"):
		return r.takeOpening(ifEmpty(name)), nil
	case strings.HasPrefix(rest, ":+"):
		return r.takeOpening(ifFull(name)), nil
	}
	return nil, api.ErrForm
}

// takeOpening is a piece of the two bytes that begin a text in braces.
func (r *reader) takeOpening(p piece) piece {
	r.at += 2
	r.enter(braced)
	return p
}

// leadingName is the longest name of a variable with which a text begins, "" if there is none.
func leadingName(s string) string {
	end := 0
	for end < len(s) && isNameByte(s[end], end == 0) {
		end++
	}
	return s[:end]
}

func isNameByte(b byte, first bool) bool {
	switch {
	case 'A' <= b && b <= 'Z', 'a' <= b && b <= 'z', b == '_':
		return true
	}
	return !first && '0' <= b && b <= '9'
}
