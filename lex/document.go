package lex

import (
	"errors"
	"strings"

	"strata/api"
	"strata/words"
)

// documents takes the documents that a line opens out of the lines behind it.
func (r *lineReader) documents(line api.Line, escape byte) ([]api.Doc, error) {
	if !isCopying(line.Text) {
		return nil, nil
	}
	list, err := words.Split(line.Text, escape)
	if err != nil {
		return nil, quoteFault(line, err)
	}
	var docs []api.Doc
	for _, word := range list[1:] {
		if !strings.HasPrefix(word.Raw, opens) {
			continue
		}
		doc, there := r.document(word.Raw)
		if !there {
			return nil, faultAt(api.ErrDoc, line, word.At)
		}
		docs = append(docs, doc)
	}
	return docs, nil
}

// isCopying tells whether a line's first word is copy; other instructions have no documents.
func isCopying(text string) bool {
	rest, is := cutWord(strings.TrimLeft(text, blanks), "copy")
	return is && rest != "" && strings.IndexByte(blanks, rest[0]) >= 0
}

// quoteFault is the fault of a line that can't be cut into words, at its place in the file.
func quoteFault(line api.Line, err error) error {
	var fault api.Fault
	errors.As(err, &fault)
	return faultAt(api.ErrQuote, line, fault.At)
}

func faultAt(no api.Errno, line api.Line, at int) error {
	where, col := Place(line, at)
	return api.Fault{No: no, Line: where, At: col}
}

// opens is what a word begins with that opens a document.
const opens = "<<"

// opening is what a word says of the document that it opens.
type opening struct {
	name    string
	raw     bool // the name is quoted
	outdent bool // the tabs at the beginning of lines are left out
}

// readOpening is what a word says, if it has the form of one that opens a document.
func readOpening(word string) (opening, bool) {
	name, outdent := strings.CutPrefix(strings.TrimPrefix(word, opens), "-")
	raw := isQuoted(name)
	if raw {
		name = name[1 : len(name)-1]
	}
	return opening{name: name, raw: raw, outdent: outdent}, isName(name)
}

// isQuoted tells whether a text begins and ends with the same kind of quote.
func isQuoted(s string) bool {
	last := len(s) - 1
	return last > 0 && s[0] == s[last] && (s[0] == '"' || s[0] == '\'')
}

func isName(s string) bool {
	for i := range len(s) {
		if !isNameByte(s[i]) {
			return false
		}
	}
	return s != "" && len(s) <= api.MaxName
}

func isNameByte(b byte) bool {
	return 'A' <= b && b <= 'Z' || 'a' <= b && b <= 'z' || '0' <= b && b <= '9' || b == '_'
}

// document takes the document that a word opens, and its end; there is none, if the word has not the form, or the end is missing.
func (r *lineReader) document(word string) (api.Doc, bool) {
	open, is := readOpening(word)
	if !is {
		return api.Doc{}, false
	}
	doc := api.Doc{Name: open.name, Raw: open.raw, Line: r.count + 1}
	var text strings.Builder
	for {
		line, there := r.take()
		if !there {
			return api.Doc{}, false
		}
		if open.outdent {
			line.text = strings.TrimLeft(line.text, "\t")
		}
		if line.text == open.name {
			doc.Text = text.String()
			return doc, true
		}
		text.WriteString(line.text)
		text.WriteByte('\n')
	}
}
