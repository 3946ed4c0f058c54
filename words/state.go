package words

// state is where in a line a byte stands: what the byte does hangs on it.
type state int

const (
	between         state = iota // ahead of a word, or behind one
	inBare                       // in a word, outside of quotes
	inBareEscaped                // there, behind an escape
	inSingle                     // between ' quotes, where no escape counts
	inDouble                     // between " quotes
	inDoubleEscaped              // there, behind an escape
)

// inWord tells whether a word goes on there.
func (now state) inWord() bool { return now != between }

// inQuotes tells whether a quote is without its end there.
func (now state) inQuotes() bool { return now >= inSingle }

// behind is the state behind a byte that stands in this one.
func (now state) behind(b, escape byte) state {
	switch now {
	case inBareEscaped:
		return inBare
	case inSingle:
		return endedBy(now, b, '\'')
	case inDoubleEscaped:
		return inDouble
	case inDouble:
		if b == escape {
			return inDoubleEscaped
		}
		return endedBy(now, b, '"')
	}
	return outside(b, escape)
}

// endedBy is the state behind a byte between quotes, of which one byte is the end.
func endedBy(now state, b, end byte) state {
	if b == end {
		return inBare
	}
	return now
}

// outside is the state behind a byte that no escape and no quotes keep.
func outside(b, escape byte) state {
	switch b {
	case ' ', '\t', '\r':
		return between
	case '\'':
		return inSingle
	case '"':
		return inDouble
	case escape:
		return inBareEscaped
	}
	return inBare
}

// escapeOf is the byte that counts as the escape.
func escapeOf(b byte) byte {
	if b == '`' {
		return b
	}
	return '\\'
}
