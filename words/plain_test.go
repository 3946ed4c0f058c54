package words_test

import (
	"regexp"
	"strings"

	"strata/api"
)

// A second, slow telling of the chapter: what is kept together is found by expressions, a word as one match.

var (
	blankRow = regexp.MustCompile(`^[ \t\r]*`)
	wordRows = [2]*regexp.Regexp{wordRow(`\\`), wordRow("`")}
)

// wordRow is what belongs to a word, if no quote is without its end.
func wordRow(escape string) *regexp.Regexp {
	row := `(?s)^(?:[^ \t\r'"E]|E.|E$|'[^']*'|"(?:[^"E]|E.)*")*`
	return regexp.MustCompile(strings.ReplaceAll(row, "E", escape))
}

// plainSplit is Split; where a quote has no end, its place, else -1.
func plainSplit(s string, escape byte) ([]api.Word, int) {
	row := wordRows[0]
	if escape == '`' {
		row = wordRows[1]
	}
	var list []api.Word
	at := 0
	for {
		at += len(blankRow.FindString(s[at:]))
		if at == len(s) {
			return list, -1
		}
		raw := row.FindString(s[at:])
		end := at + len(raw)
		if end < len(s) && !strings.Contains(" \t\r", s[end:end+1]) {
			return nil, end
		}
		list = append(list, api.Word{At: at, Raw: raw})
		at = end
	}
}

var plainWord = regexp.MustCompile(`^[A-Za-z0-9_./:,+=@%-]+$`)

// plainQuote is Quote.
func plainQuote(s string, escape byte) string {
	if plainWord.MatchString(s) {
		return s
	}
	mark := "\\"
	if escape == '`' {
		mark = "`"
	}
	s = strings.ReplaceAll(s, mark, mark+mark)
	s = strings.ReplaceAll(s, `"`, mark+`"`)
	return `"` + strings.ReplaceAll(s, "$", mark+"$") + `"`
}
