package expand_test

import (
	"regexp"
	"slices"
	"strings"

	"strata/api"
)

// A second, slow telling of the chapter: texts within texts are told by calls within calls, and what is wrong ends them all by a panic.

// told is what there is to tell of a word, or of a document.
type told struct {
	text  string
	names []string
	bare  bool // it ends with a variable without braces
	no    api.Errno
}

// plainWord is what is told of a word.
func plainWord(s string, escape byte, vars []api.Pair) told {
	return tell(s, escape, vars, (*teller).word)
}

// plainDoc is what is told of a document.
func plainDoc(s string, escape byte, vars []api.Pair) told {
	return tell(s, escape, vars, (*teller).document)
}

func tell(s string, escape byte, vars []api.Pair, whole func(*teller) string) (answer told) {
	defer func() {
		if no, is := recover().(api.Errno); is {
			answer = told{no: no}
		}
	}()
	p := &teller{rest: s, escape: string([]byte{escape}), vars: vars}
	text := whole(p)
	if len(text) > api.MaxValue {
		return told{names: p.names, bare: p.bare, no: api.ErrMany}
	}
	return told{text: text, names: p.names, bare: p.bare}
}

type teller struct {
	rest   string
	escape string
	vars   []api.Pair
	names  []string
	bare   bool
}

// cut cuts a text off the rest, if that begins with it.
func (p *teller) cut(s string) bool {
	rest, is := strings.CutPrefix(p.rest, s)
	p.rest = rest
	return is
}

// one cuts the next byte off.
func (p *teller) one() string {
	b := p.rest[:1]
	p.rest = p.rest[1:]
	return b
}

// behind tells whether one of the texts stands next.
func (p *teller) behind(texts ...string) bool {
	return slices.ContainsFunc(texts, func(s string) bool { return strings.HasPrefix(p.rest, s) })
}

func (p *teller) word() string { return p.plain("") }

// plain is plain text, up to the end of all or, where one is told, up to an end.
func (p *teller) plain(end string) string {
	text := ""
	for {
		switch {
		case p.rest == "" && end == "":
			return text
		case p.rest == "":
			panic(api.ErrForm)
		case p.cut(p.escape):
			if p.rest == "" {
				text += p.escape
			} else {
				text += p.one()
			}
		case end != "" && p.cut(end):
			return text
		case p.cut("'"):
			inner, rest, there := strings.Cut(p.rest, "'")
			if !there {
				panic(api.ErrQuote)
			}
			text += inner
			p.rest = rest
		case p.cut(`"`):
			text += p.quoted()
		case p.behind("$"):
			text += p.dollar()
		default:
			text += p.one()
		}
	}
}

func (p *teller) quoted() string {
	text := ""
	for {
		switch {
		case p.rest == "":
			panic(api.ErrQuote)
		case p.cut(p.escape):
			switch {
			case p.behind(`"`, "$", p.escape):
				text += p.one()
			case p.rest != "":
				text += p.escape + p.one()
			}
		case p.cut(`"`):
			return text
		case p.behind("$"):
			text += p.dollar()
		default:
			text += p.one()
		}
	}
}

func (p *teller) document() string {
	text := ""
	for p.rest != "" {
		switch {
		case p.cut(p.escape):
			if p.behind("$", p.escape) {
				text += p.one()
			} else {
				text += p.escape
			}
		case p.behind("$"):
			text += p.dollar()
		default:
			text += p.one()
		}
	}
	return text
}

var (
	bareRow = regexp.MustCompile(`^\$([A-Za-z_][A-Za-z0-9_]*)`)
	openRow = regexp.MustCompile(`^\$\{([A-Za-z_][A-Za-z0-9_]*)(\}|:-|:\+)`)
)

func (p *teller) dollar() string {
	if row := bareRow.FindStringSubmatch(p.rest); row != nil {
		p.rest = p.rest[len(row[0]):]
		p.bare = p.rest == ""
		return p.value(row[1])
	}
	if !p.behind("${") {
		return p.one()
	}
	row := openRow.FindStringSubmatch(p.rest)
	if row == nil {
		panic(api.ErrForm)
	}
	p.rest = p.rest[len(row[0]):]
	value := p.value(row[1])
	if row[2] == "}" {
		return value
	}
	inner := p.plain("}")
	switch {
	case row[2] == ":-" && value == "", row[2] == ":+" && value != "":
		return inner
	case row[2] == ":-":
		return value
	}
	return ""
}

// value is a variable's value; the variable is one of the names.
func (p *teller) value(name string) string {
	if !slices.Contains(p.names, name) {
		p.names = append(p.names, name)
	}
	value := ""
	for _, pair := range p.vars {
		if pair.Key == name {
			value = pair.Val
		}
	}
	return value
}
