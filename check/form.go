package check

import (
	"strings"

	"strata/api"
)

// Bytes that texts are made of.
const (
	octal   = "01234567"
	digits  = octal + "89"
	small   = "abcdefghijklmnopqrstuvwxyz"
	letters = small + "ABCDEFGHIJKLMNOPQRSTUVWXYZ"
	named   = letters + digits + "_"
)

// opens is what a word begins with that opens a document.
const opens = "<<"

// scratch is the base that is no image and no stage.
const scratch = "scratch"

// latest is the tag of a reference that has none.
const latest = "latest"

// isMadeOf tells whether a text is not empty, and has none but these bytes.
func isMadeOf(s, bytes string) bool {
	for i := range len(s) {
		if strings.IndexByte(bytes, s[i]) < 0 {
			return false
		}
	}
	return s != ""
}

// begins tells whether a text's first byte is one of these.
func begins(s, bytes string) bool {
	return s != "" && strings.IndexByte(bytes, s[0]) >= 0
}

// ends tells whether a text's last byte is one of these.
func ends(s, bytes string) bool {
	return s != "" && strings.IndexByte(bytes, s[len(s)-1]) >= 0
}

func isVariable(s string) bool { return begins(s, letters+"_") && isMadeOf(s, named) }

func isLabelKey(s string) bool { return isMadeOf(s, letters+digits+".-_/") }

func isMode(s string) bool { return len(s) <= 4 && isMadeOf(s, octal) }

func isStageName(s string) bool {
	return len(s) <= api.MaxName && s != scratch && begins(s, small) && isMadeOf(s, small+digits+"_-.")
}

// isSource tells whether a text may stand behind --from.
func isSource(s string) bool {
	return isMadeOf(s, digits) || isStageName(s) || isReference(s)
}

func isReference(s string) bool {
	name, tag, tagged := strings.Cut(s, ":")
	if !tagged {
		tag = latest
	}
	return len(name)+len(":")+len(tag) <= api.MaxName && isImageName(name) && isTag(tag)
}

func isImageName(s string) bool {
	for piece := range strings.SplitSeq(s, "/") {
		if !isPiece(piece) {
			return false
		}
	}
	return s != scratch
}

func isPiece(s string) bool {
	return begins(s, small+digits) && ends(s, small+digits) && isMadeOf(s, small+digits+"._-")
}

func isTag(s string) bool { return begins(s, named) && isMadeOf(s, named+".-") }

// opensDocument tells whether a word that begins as one that opens a document opens this one.
func opensDocument(word string, doc api.Doc) bool {
	name := strings.TrimPrefix(strings.TrimPrefix(word, opens), "-")
	quoted := isQuoted(name)
	if quoted {
		name = name[1 : len(name)-1]
	}
	return len(name) <= api.MaxName && isMadeOf(name, named) && name == doc.Name && quoted == doc.Raw
}

// isQuoted tells whether a text stands between two quotes of one kind.
func isQuoted(s string) bool {
	return len(s) >= 2 && begins(s, `"'`) && s[0] == s[len(s)-1]
}
