package expand

import (
	"strings"

	"strata/api"
)

// text is what the pieces that were put come to.
type text struct {
	vars    []api.Pair
	last    map[string]int // of each key the place of its last pair; made when a value is asked for
	built   strings.Builder
	tooLong bool
	depth   int // texts in braces that have begun, and not ended
	hidden  int // the depth of the outermost one of them that isn't taken; 0: all are
}

// value is the value of a variable.
func (t *text) value(name string) string {
	if t.last == nil {
		t.last = lastPairs(t.vars)
	}
	if i, there := t.last[name]; there {
		return t.vars[i].Val
	}
	return ""
}

// lastPairs tells of each key where its last pair stands.
func lastPairs(vars []api.Pair) map[string]int {
	last := make(map[string]int, len(vars))
	for i, pair := range vars {
		last[pair.Key] = i
	}
	return last
}

// lay puts bytes behind the text, unless they stand in braces that aren't taken.
func (t *text) lay(s string) {
	switch {
	case t.hidden > 0:
	case t.built.Len()+len(s) > api.MaxValue:
		t.tooLong = true
	default:
		t.built.WriteString(s)
	}
}

// begin begins a text in braces.
func (t *text) begin(taken bool) {
	t.depth++
	if !taken && t.hidden == 0 {
		t.hidden = t.depth
	}
}

// end ends the text in braces that was begun last.
func (t *text) end() {
	if t.hidden == t.depth {
		t.hidden = 0
	}
	t.depth--
}

// whole is the text, if it is not too long.
func (t *text) whole() (string, error) {
	if t.tooLong {
		return "", api.ErrMany
	}
	return t.built.String(), nil
}
