package json

import (
	"slices"
	"unicode/utf8"

	"strata/api"
)

// value is one value with just what its kind has; its items are read one by one, when they are asked for.
type value interface {
	// json is the value in the form in which it is handed out.
	json() api.Json
}

// word is null, false or true: the kind itself.
type word int

type number int64

type text string

type list []api.Json

type object struct {
	keys  []string
	items []api.Json
}

func (w word) json() api.Json   { return api.Json{Kind: int(w)} }
func (n number) json() api.Json { return api.Json{Kind: api.JNumber, Number: int64(n)} }
func (t text) json() api.Json   { return api.Json{Kind: api.JText, Text: string(t)} }
func (l list) json() api.Json   { return api.Json{Kind: api.JList, Items: l} }

func (o object) json() api.Json {
	return api.Json{Kind: api.JObject, Keys: o.keys, Items: o.items}
}

// valueOf reads what a value's kind has, and nil of what is no value.
func valueOf(v api.Json) value {
	switch v.Kind {
	case api.JNull, api.JFalse, api.JTrue:
		return word(v.Kind)
	case api.JNumber:
		return number(v.Number)
	case api.JText:
		return text(v.Text)
	case api.JList:
		return list(v.Items)
	case api.JObject:
		if len(v.Keys) == len(v.Items) {
			return object{v.Keys, v.Items}
		}
	}
	return nil
}

// check is the first thing that is wrong with a value that stands so deep, or with its items.
func check(v api.Json, deep int) error {
	if deep > api.MaxNest {
		return api.ErrMany
	}
	switch x := valueOf(v).(type) {
	case nil:
		return api.ErrKind
	case text:
		if !utf8.ValidString(string(x)) {
			return api.ErrText
		}
	case list:
		return checkAll(x, deep+1)
	case object:
		if err := checkKeys(x.keys); err != nil {
			return err
		}
		return checkAll(x.items, deep+1)
	}
	return nil
}

func checkAll(items []api.Json, deep int) error {
	for _, item := range items {
		if err := check(item, deep); err != nil {
			return err
		}
	}
	return nil
}

func checkKeys(keys []string) error {
	for _, key := range keys {
		if !utf8.ValidString(key) {
			return api.ErrText
		}
	}
	rising := slices.Sorted(slices.Values(keys))
	if len(slices.Compact(rising)) < len(keys) {
		return api.ErrTwice
	}
	return nil
}

// wrongByte is where the first byte stands at which no character of UTF-8 begins, or the length of the text.
func wrongByte(s string) int {
	for at, c := range s {
		if c != utf8.RuneError {
			continue
		}
		// The character FFFD itself may stand there, in three bytes.
		if _, size := utf8.DecodeRuneInString(s[at:]); size == 1 {
			return at
		}
	}
	return len(s)
}
