package lex

import "strings"

// byteReader goes through a text, from its first byte on.
type byteReader struct {
	text string
	at   int
}

// ended tells whether all bytes were taken.
func (r *byteReader) ended() bool { return r.at >= len(r.text) }

// takeUpTo takes the bytes up to the next one of a kind, or up to the end of the text; that one is taken, but not told.
func (r *byteReader) takeUpTo(stop byte) string {
	rest := r.text[r.at:]
	end := strings.IndexByte(rest, stop)
	if end < 0 {
		r.at = len(r.text)
		return rest
	}
	r.at += end + 1
	return rest[:end]
}

// lineReader goes through the lines of a file. A copy of it looks ahead without moving it.
type lineReader struct {
	byteReader
	count int // lines that were taken
}

// take is the next line, if there is one.
func (r *lineReader) take() (fileLine, bool) {
	if r.ended() {
		return fileLine{}, false
	}
	r.count++
	return fileLine{number: r.count, text: strings.TrimRight(r.takeUpTo('\n'), "\r")}, true
}

// takeSaying is the next line that is neither empty nor a remark; those ahead of it are taken with it.
func (r *lineReader) takeSaying() (fileLine, bool) {
	for {
		line, there := r.take()
		if !there || line.says() {
			return line, there
		}
	}
}

// fileLine is a line of the file, without the bytes that end it.
type fileLine struct {
	number int
	text   string
}

// head is the place of the first byte that is no blank, or the line's length.
func (l fileLine) head() int {
	return len(l.text) - len(strings.TrimLeft(l.text, blanks))
}

// isRemark tells whether the line's head is a #.
func (l fileLine) isRemark() bool {
	return strings.HasPrefix(l.text[l.head():], "#")
}

// says tells whether the line is neither empty nor a remark.
func (l fileLine) says() bool {
	return l.head() < len(l.text) && !l.isRemark()
}

// end is where the line ends, as far as it belongs to a line of the build file, and whether it goes on.
func (l fileLine) end(escape byte) (int, bool) {
	said := strings.TrimRight(l.text, blanks)
	if said != "" && said[len(said)-1] == escape {
		return len(said) - 1, true
	}
	return len(l.text), false
}
