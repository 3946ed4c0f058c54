package json

import (
	"strconv"
	"strings"

	"strata/api"
)

// reader reads a text of UTF-8 from the left.
type reader struct {
	text string
	at   int
}

func fault(no api.Errno, at int) error { return api.Fault{No: no, At: at} }

// whole reads a value, with blanks around it, up to the text's end.
func (r *reader) whole() (value, error) {
	r.blanks()
	v, err := r.value(1)
	if err != nil {
		return nil, err
	}
	if r.blanks(); r.at < len(r.text) {
		return nil, fault(api.ErrLong, r.at)
	}
	return v, nil
}

func (r *reader) blanks() {
	for r.at < len(r.text) && strings.IndexByte(" \t\n\r", r.text[r.at]) >= 0 {
		r.at++
	}
}

// stands tells whether a byte stands there, and goes on behind it if it does.
func (r *reader) stands(b byte) bool {
	if r.at == len(r.text) || r.text[r.at] != b {
		return false
	}
	r.at++
	return true
}

// wrong is the error where something else is to come: that the text has ended, or has another byte there.
func (r *reader) wrong() error {
	if r.at == len(r.text) {
		return fault(api.ErrShort, r.at)
	}
	return fault(api.ErrForm, r.at)
}

// value reads a value that stands so deep.
func (r *reader) value(deep int) (value, error) {
	if r.at == len(r.text) {
		return nil, fault(api.ErrShort, r.at)
	}
	if deep > api.MaxNest {
		return nil, fault(api.ErrMany, r.at)
	}
	switch b := r.text[r.at]; {
	case b == 'n':
		return r.word(api.JNull)
	case b == 'f':
		return r.word(api.JFalse)
	case b == 't':
		return r.word(api.JTrue)
	case b == '-' || '0' <= b && b <= '9':
		return r.number()
	case b == '"':
		r.at++
		return r.textValue()
	case b == '[':
		r.at++
		return r.list(deep)
	case b == '{':
		r.at++
		return r.object(deep)
	}
	return nil, r.wrong()
}

func (r *reader) word(w word) (value, error) {
	if !strings.HasPrefix(r.text[r.at:], w.name()) {
		return nil, r.wrong()
	}
	r.at += len(w.name())
	return w, nil
}

func (r *reader) number() (value, error) {
	end := r.at
	for end < len(r.text) && strings.IndexByte("0123456789-+.eE", r.text[end]) >= 0 {
		end++
	}
	row := r.text[r.at:end]
	n, err := strconv.ParseInt(row, 10, 64)
	// A number may be read out of rows that aren't its form, as 01 and -0 are.
	if err != nil || strconv.FormatInt(n, 10) != row {
		return nil, r.wrong()
	}
	r.at = end
	return number(n), nil
}

func (r *reader) textValue() (value, error) {
	s, err := r.quoted()
	if err != nil {
		return nil, err
	}
	return text(s), nil
}

// list reads items, behind the list's first byte.
func (r *reader) list(deep int) (value, error) {
	var l list
	for more := r.begins(']'); more; {
		item, err := r.value(deep + 1)
		if err != nil {
			return nil, err
		}
		l = append(l, item.json())
		if more, err = r.goesOn(']'); err != nil {
			return nil, err
		}
	}
	return l, nil
}

// object reads members, behind the object's first byte.
func (r *reader) object(deep int) (value, error) {
	var o object
	places := make(map[string]int)
	for more := r.begins('}'); more; {
		key, err := r.key(places)
		if err != nil {
			return nil, err
		}
		item, err := r.value(deep + 1)
		if err != nil {
			return nil, err
		}
		places[key] = len(o.keys)
		o.keys, o.items = append(o.keys, key), append(o.items, item.json())
		if more, err = r.goesOn('}'); err != nil {
			return nil, err
		}
	}
	return o, nil
}

// begins tells whether items come, or the end of what has them.
func (r *reader) begins(end byte) bool {
	r.blanks()
	return !r.stands(end)
}

// goesOn tells whether a further item comes behind one, or the end of what has them.
func (r *reader) goesOn(end byte) (bool, error) {
	r.blanks()
	if r.stands(end) {
		return false, nil
	}
	if !r.stands(',') {
		return false, r.wrong()
	}
	r.blanks()
	return true, nil
}

// key reads a member up to its value; places has the keys that the object has already.
func (r *reader) key(places map[string]int) (string, error) {
	start := r.at
	if !r.stands('"') {
		return "", r.wrong()
	}
	key, err := r.quoted()
	if err != nil {
		return "", err
	}
	if _, met := places[key]; met {
		return "", fault(api.ErrTwice, start)
	}
	if r.blanks(); !r.stands(':') {
		return "", r.wrong()
	}
	r.blanks()
	return key, nil
}

// quoted reads a text, behind its first byte.
func (r *reader) quoted() (string, error) {
	var read strings.Builder
	for {
		start := r.at
		for r.at < len(r.text) && r.text[r.at] >= 0x20 && r.text[r.at] != '"' && r.text[r.at] != '\\' {
			r.at++
		}
		read.WriteString(r.text[start:r.at])
		if r.stands('"') {
			return read.String(), nil
		}
		if r.at == len(r.text) || r.text[r.at] != '\\' {
			return "", r.wrong()
		}
		c, err := r.escape()
		if err != nil {
			return "", err
		}
		read.WriteRune(c)
	}
}

// escape reads what a \ and that which stands behind it mean.
func (r *reader) escape() (rune, error) {
	if strings.HasPrefix(r.text[r.at:], `\u`) {
		return r.character()
	}
	start := r.at
	r.at++
	if r.at == len(r.text) {
		return 0, fault(api.ErrShort, r.at)
	}
	i := strings.IndexByte(`"\/bfnrt`, r.text[r.at])
	if i < 0 {
		return 0, fault(api.ErrForm, start)
	}
	r.at++
	return rune("\"\\/\b\f\n\r\t"[i]), nil
}

// character reads a character that is written by its number, or by the two numbers that it has in UTF-16.
func (r *reader) character() (rune, error) {
	start := r.at
	high, err := r.unit(start)
	if err != nil || high < 0xd800 || high > 0xdfff {
		return high, err
	}
	if high >= 0xdc00 {
		return 0, fault(api.ErrForm, start)
	}
	low, err := r.unit(start)
	if err != nil {
		return 0, err
	}
	if low < 0xdc00 || low > 0xdfff {
		return 0, fault(api.ErrForm, start)
	}
	return 0x10000 + (high-0xd800)<<10 + (low - 0xdc00), nil
}

// unit reads \u and four digits; what is none of that is told at start, where the character begins.
func (r *reader) unit(start int) (rune, error) {
	var n rune
	for i := range 6 {
		if r.at == len(r.text) {
			return 0, fault(api.ErrShort, r.at)
		}
		b := r.text[r.at]
		d := digitOf(b)
		switch {
		case i == 0 && b == '\\', i == 1 && b == 'u':
		case i > 1 && d >= 0:
			n = n<<4 | rune(d)
		default:
			return 0, fault(api.ErrForm, start)
		}
		r.at++
	}
	return n, nil
}

// digitOf is the number of a digit to the base 16, and -1 of other bytes.
func digitOf(b byte) int {
	if 'A' <= b && b <= 'F' {
		b += 'a' - 'A'
	}
	return strings.IndexByte(digits, b)
}
