package lex_test

import (
	"regexp"
	"strings"
	"unicode/utf8"

	"strata/api"
	"strata/words"
)

// A second, slow telling of the chapter: the lines are cut first, by expressions, and each line of the build file is made of a number of them.

var (
	directiveRow = regexp.MustCompile(`(?is)^([ \t\r]*)#[ \t\r]*escape[ \t\r]*=[ \t\r]*(.*?)[ \t\r]*$`)
	silentRow    = regexp.MustCompile(`(?s)^[ \t\r]*(#.*)?$`)
	blankRow     = regexp.MustCompile(`^[ \t\r]*$`)
	headRow      = regexp.MustCompile(`^[ \t\r]*`)
	onRows       = map[byte]*regexp.Regexp{'\\': regexp.MustCompile(`\\[ \t\r]*$`), '`': regexp.MustCompile("`[ \t\r]*$")}
	copyRow      = regexp.MustCompile(`^[ \t\r]*[cC][oO][pP][yY][ \t\r]`)
	openRow      = regexp.MustCompile(`^<<(-?)(?:([A-Za-z0-9_]{1,96})|"([A-Za-z0-9_]{1,96})"|'([A-Za-z0-9_]{1,96})')$`)
)

// told is what Lines answers.
type told struct {
	escape byte
	lines  []api.Line
	fault  api.Fault
}

func refused(no api.Errno, line, at int) told {
	return told{fault: api.Fault{No: no, Line: line, At: at}}
}

// fileLines are the lines of a file.
func fileLines(s string) []string {
	list := strings.Split(s, "\n")
	if list[len(list)-1] == "" {
		list = list[:len(list)-1]
	}
	for i := range list {
		for strings.HasSuffix(list[i], "\r") {
			list[i] = list[i][:len(list[i])-1]
		}
	}
	return list
}

// plainLines is Lines.
func plainLines(s string) told {
	if len(s) > api.MaxSource {
		return refused(api.ErrMany, 0, 0)
	}
	line, col := 1, 1
	for rest := s; rest != ""; {
		r, size := utf8.DecodeRuneInString(rest)
		if r == utf8.RuneError && !strings.HasPrefix(rest, "\uFFFD") {
			return refused(api.ErrText, line, col)
		}
		col += size
		if r == '\n' {
			line, col = line+1, 1
		}
		rest = rest[size:]
	}
	list := fileLines(s)
	if len(list) > api.MaxLines {
		return refused(api.ErrMany, api.MaxLines+1, 1)
	}
	escape, at := byte('\\'), 0
	for at < len(list) && directiveRow.MatchString(list[at]) {
		parts := directiveRow.FindStringSubmatch(list[at])
		if at > 0 {
			return refused(api.ErrTwice, at+1, len(parts[1])+1)
		}
		if parts[2] != "\\" && parts[2] != "`" {
			return refused(api.ErrForm, 1, strings.Index(list[at], "=")+1)
		}
		escape = parts[2][0]
		at++
	}
	return plainBody(list, at, escape)
}

// plainBody is what Lines answers of the lines from one on.
func plainBody(list []string, at int, escape byte) told {
	answer := told{escape: escape}
	for at < len(list) {
		if silentRow.MatchString(list[at]) {
			at++
			continue
		}
		var l api.Line
		l, at = plainJoin(list, at, onRows[escape])
		if blankRow.MatchString(l.Text) {
			continue
		}
		if copyRow.MatchString(l.Text) {
			w, err := words.Split(l.Text, escape)
			if err != nil {
				line, col := plainPlace(l, err.(api.Fault).At)
				return refused(api.ErrQuote, line, col)
			}
			for i := 1; i < len(w); i++ {
				if !strings.HasPrefix(w[i].Raw, "<<") {
					continue
				}
				doc, end := plainDocument(list, at, w[i].Raw)
				if end < 0 {
					line, col := plainPlace(l, w[i].At)
					return refused(api.ErrDoc, line, col)
				}
				l.Docs = append(l.Docs, doc)
				at = end
			}
		}
		answer.lines = append(answer.lines, l)
	}
	return answer
}

// plainJoin is the line that begins at one of the list, and where the lines behind it begin.
func plainJoin(list []string, at int, on *regexp.Regexp) (api.Line, int) {
	l := api.Line{Line: at + 1}
	col := len(headRow.FindString(list[at])) + 1
	for {
		piece := list[at][col-1:]
		goes := on.MatchString(list[at])
		if goes {
			piece = piece[:len(piece)-len(on.FindString(piece))]
		}
		if piece != "" {
			l.Marks = append(l.Marks, api.Mark{At: len(l.Text), Line: at + 1, Col: col})
			l.Text += piece
		}
		at, col = at+1, 1
		if !goes {
			return l, at
		}
		for at < len(list) && silentRow.MatchString(list[at]) {
			at++
		}
		if at == len(list) {
			return l, at
		}
	}
}

// plainDocument is the document that a word opens, and where the lines behind its end begin, or -1.
func plainDocument(list []string, at int, word string) (api.Doc, int) {
	parts := openRow.FindStringSubmatch(word)
	if parts == nil {
		return api.Doc{}, -1
	}
	name := parts[2] + parts[3] + parts[4]
	doc := api.Doc{Name: name, Raw: parts[2] == "", Line: at + 1}
	for ; at < len(list); at++ {
		here := list[at]
		for parts[1] == "-" && strings.HasPrefix(here, "\t") {
			here = here[1:]
		}
		if here == name {
			return doc, at + 1
		}
		doc.Text += here + "\n"
	}
	return api.Doc{}, -1
}

// plainPlace is Place, gone through from the last mark on.
func plainPlace(l api.Line, at int) (int, int) {
	if at < 0 {
		at = 0
	}
	if at > len(l.Text) {
		at = len(l.Text)
	}
	for i := len(l.Marks) - 1; i >= 0; i-- {
		if m := l.Marks[i]; m.At <= at {
			return m.Line, m.Col + (at - m.At)
		}
	}
	return l.Line, at + 1
}
