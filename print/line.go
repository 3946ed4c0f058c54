package print

import (
	"strings"

	"strata/api"
)

// line is an instruction and the words of each of the parts behind it, with one blank between each two.
func line(instruction string, parts ...[]string) string {
	words := []string{instruction}
	for _, part := range parts {
		words = append(words, part...)
	}
	return strings.Join(words, " ")
}

// pairs are words of a key and a value each.
func pairs(list []api.Pair) []string {
	words := make([]string, 0, len(list))
	for _, pair := range list {
		words = append(words, pair.Key+"="+pair.Val)
	}
	return words
}

// keys are the keys of pairs.
func keys(list []api.Pair) []string {
	words := make([]string, 0, len(list))
	for _, pair := range list {
		words = append(words, pair.Key)
	}
	return words
}

// flag is a flag with its value, unless it has none.
func flag(name, value string) []string {
	if value == "" {
		return nil
	}
	return []string{name + value}
}

// force is the flag --force, if it is there.
func force(there bool) []string {
	if !there {
		return nil
	}
	return []string{"--force"}
}

// list is one word, the JSON list of the texts. Layer json would refuse those that are no UTF-8 or too long; here any step has a line.
func list(texts []string) []string {
	var b strings.Builder
	b.WriteByte('[')
	for i, text := range texts {
		if i > 0 {
			b.WriteByte(',')
		}
		quote(&b, text)
	}
	b.WriteByte(']')
	return []string{b.String()}
}

// quote writes a text in the form that JSON values have.
func quote(b *strings.Builder, text string) {
	const digits = "0123456789abcdef"
	b.WriteByte('"')
	for _, c := range []byte(text) {
		switch {
		case c == '"' || c == '\\':
			b.WriteByte('\\')
			b.WriteByte(c)
		case c < 0x20:
			b.WriteString(`\u00`)
			b.WriteByte(digits[c>>4])
			b.WriteByte(digits[c&15])
		default:
			b.WriteByte(c)
		}
	}
	b.WriteByte('"')
}
