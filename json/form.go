package json

import (
	"slices"
	"strconv"
	"strings"

	"strata/api"
)

// digits are those to the base 16, by their numbers.
const digits = "0123456789abcdef"

// form is a form that is being written; nothing more is written once it would have more than MaxJson bytes.
type form struct {
	text strings.Builder
	over bool
}

// put writes a piece of the form.
func (f *form) put(piece string) {
	f.over = f.over || f.text.Len()+len(piece) > api.MaxJson
	if !f.over {
		f.text.WriteString(piece)
	}
}

// write writes a value that was checked.
func (f *form) write(v api.Json) {
	switch x := valueOf(v).(type) {
	case word:
		f.put(x.name())
	case number:
		f.put(strconv.FormatInt(int64(x), 10))
	case text:
		f.quote(string(x))
	case list:
		f.list(x)
	case object:
		f.object(x)
	}
}

// name is how a word is written.
func (w word) name() string {
	switch w {
	case api.JFalse:
		return "false"
	case api.JTrue:
		return "true"
	}
	return "null"
}

// quote writes a text.
func (f *form) quote(s string) {
	f.put(`"`)
	written := 0
	for i := 0; i < len(s) && !f.over; i++ {
		if b := s[i]; b < 0x20 || b == '"' || b == '\\' {
			f.put(s[written:i])
			f.escape(b)
			written = i + 1
		}
	}
	f.put(s[written:])
	f.put(`"`)
}

// escape writes a byte that can't stand in the form of a text as it is.
func (f *form) escape(b byte) {
	if b >= 0x20 {
		f.put(`\`)
		f.put(string(rune(b)))
		return
	}
	f.put(`\u00`)
	f.put(digits[b>>4:][:1])
	f.put(digits[b&15:][:1])
}

func (f *form) list(l list) {
	f.put("[")
	for i, item := range l {
		f.comma(i)
		f.write(item)
		if f.over {
			return
		}
	}
	f.put("]")
}

func (f *form) object(o object) {
	f.put("{")
	for i, place := range rising(o.keys) {
		f.comma(i)
		f.quote(o.keys[place])
		f.put(":")
		f.write(o.items[place])
		if f.over {
			return
		}
	}
	f.put("}")
}

// comma writes what stands ahead of an item: between each two of them.
func (f *form) comma(i int) {
	if i > 0 {
		f.put(",")
	}
}

// rising is where the keys stand, in their order.
func rising(keys []string) []int {
	places := make([]int, len(keys))
	for i := range places {
		places[i] = i
	}
	slices.SortFunc(places, func(a, b int) int { return strings.Compare(keys[a], keys[b]) })
	return places
}
