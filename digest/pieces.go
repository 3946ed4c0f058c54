package digest

import (
	"strconv"
	"strings"

	"strata/api"
)

// maxDigits bounds the digits of a piece's length; a number of that many fits into an int.
const maxDigits = 10

// Pieces lays texts one behind the other.
func Pieces(l ...string) string {
	var laid strings.Builder
	for _, text := range l {
		laid.WriteString(strconv.Itoa(len(text)))
		laid.WriteByte(':')
		laid.WriteString(text)
	}
	return laid.String()
}

// Cut finds them again.
func Cut(s string) ([]string, error) {
	var texts []string
	for rest := s; rest != ""; {
		text, behind, found := cutPiece(rest)
		if !found {
			return nil, api.Fault{No: api.ErrForm, At: len(s) - len(rest)}
		}
		texts, rest = append(texts, text), behind
	}
	return texts, nil
}

// cutPiece takes the first piece off: its text, what stands behind it, and whether there is one.
func cutPiece(s string) (string, string, bool) {
	length, rest, found := cutLength(s)
	if !found || length > len(rest) {
		return "", "", false
	}
	return rest[:length], rest[length:], true
}

// cutLength takes a piece's length and its colon off.
func cutLength(s string) (int, string, bool) {
	length, used := 0, 0
	for used < min(len(s), maxDigits) && '0' <= s[used] && s[used] <= '9' {
		length = length*10 + int(s[used]-'0')
		used++
	}
	// A nought stands alone, or it would be one of those ahead of a length.
	if used == 0 || used > 1 && s[0] == '0' || !strings.HasPrefix(s[used:], ":") {
		return 0, "", false
	}
	return length, s[used+1:], true
}
