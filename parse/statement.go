package parse

import (
	"errors"
	"strings"

	"strata/api"
	"strata/lex"
	"strata/words"
)

// blanks are the bytes that part words.
const blanks = " \t\r"

// statement is a line, of which it is known where its instruction stands.
type statement struct {
	line      api.Line
	escape    byte
	head, end int // of the instruction
}

func newStatement(line api.Line, escape byte) statement {
	said := strings.TrimLeft(line.Text, blanks)
	head := len(line.Text) - len(said)
	length := strings.IndexAny(said, blanks)
	if length < 0 {
		length = len(said)
	}
	return statement{line: line, escape: escape, head: head, end: head + length}
}

// instruction is the word that the statement begins with, in small letters.
func (s statement) instruction() string {
	return small(s.line.Text[s.head:s.end])
}

// rest is what stands behind the instruction, and where it begins.
func (s statement) rest() (string, int) {
	said := strings.TrimLeft(s.line.Text[s.end:], blanks)
	return strings.TrimRight(said, blanks), len(s.line.Text) - len(said)
}

// fault is an error at a byte of the line, told by its place in the file.
func (s statement) fault(no api.Errno, at int) error {
	row, col := lex.Place(s.line, at)
	return api.Fault{No: no, Line: row, At: col}
}

func (s statement) faultAtHead(no api.Errno) error { return s.fault(no, s.head) }

// faultFrom is the fault of a layer below, which tells a byte of a part of the line, from the part's beginning on.
func (s statement) faultFrom(err error, begin int) error {
	var below api.Fault
	errors.As(err, &below)
	return s.fault(below.No, begin+below.At)
}

// words are those behind the instruction.
func (s statement) words() ([]api.Word, error) {
	list, err := words.Split(s.line.Text, s.escape)
	if err != nil {
		return nil, s.faultFrom(err, 0)
	}
	if len(list) > api.MaxWords {
		return nil, s.fault(api.ErrMany, list[api.MaxWords].At)
	}
	return list[1:], nil
}

// arguments are the words behind an instruction that has no flags.
func (s statement) arguments(least, most int) ([]api.Word, error) {
	list, err := s.words()
	if err != nil {
		return nil, err
	}
	return s.counted(list, least, most)
}

// counted are arguments, if there are neither too few nor too many.
func (s statement) counted(list []api.Word, least, most int) ([]api.Word, error) {
	if len(list) < least {
		return nil, s.faultAtHead(api.ErrShort)
	}
	if len(list) > most {
		return nil, s.fault(api.ErrLong, list[most].At)
	}
	return list, nil
}

// small is a text with small letters in place of the capital ones of ASCII; others, which may have small ones in ASCII too, stay.
func small(s string) string {
	letters := []byte(s)
	for i, b := range letters {
		if 'A' <= b && b <= 'Z' {
			letters[i] = b - 'A' + 'a'
		}
	}
	return string(letters)
}
