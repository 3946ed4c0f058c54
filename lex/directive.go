package lex

import (
	"strings"

	"strata/api"
)

// directive is a remark that says which byte is the escape.
type directive struct {
	hash, equals int // where its # and its = stand in the line, from 1 on
	value        string
}

// directives takes those at the file's beginning, and tells the escape.
func (r *lineReader) directives() (byte, error) {
	escape, first := byte('\\'), true
	for {
		ahead := *r
		line, _ := ahead.take()
		d, is := line.directive()
		switch {
		case !is:
			return escape, nil
		case !first:
			return 0, api.Fault{No: api.ErrTwice, Line: line.number, At: d.hash}
		case d.value != "\\" && d.value != "`":
			return 0, api.Fault{No: api.ErrForm, Line: line.number, At: d.equals}
		}
		escape, first = d.value[0], false
		*r = ahead
	}
}

// directive is what the line says as a directive, if it has the form of one.
func (l fileLine) directive() (directive, bool) {
	if !l.isRemark() {
		return directive{}, false
	}
	hash := l.head()
	rest, is := cutWord(strings.TrimLeft(l.text[hash+1:], blanks), "escape")
	rest = strings.TrimLeft(rest, blanks)
	if !is || !strings.HasPrefix(rest, "=") {
		return directive{}, false
	}
	equals := len(l.text) - len(rest)
	return directive{hash: hash + 1, equals: equals + 1, value: strings.Trim(rest[1:], blanks)}, true
}

// cutWord is what stands behind an ASCII word at a text's beginning, capital or small letters alike.
func cutWord(s, word string) (string, bool) {
	// As many bytes as the word has can't be a longer letter that folds to an ASCII one.
	if len(s) < len(word) || !strings.EqualFold(s[:len(word)], word) {
		return "", false
	}
	return s[len(word):], true
}
