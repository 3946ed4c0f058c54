package glob_test

import (
	"errors"
	"fmt"
	"slices"
	"strings"
	"testing"

	"strata/api"
	"strata/glob"
	"strata/path"
)

// onlyError fails unless err is or wraps just the number no.
func onlyError(t *testing.T, call string, err error, no api.Errno) {
	t.Helper()
	for other := api.ErrArg; other <= api.ErrEmpty; other++ {
		if errors.Is(err, other) != (other == no) {
			t.Errorf("%s: the error is %v, not %v", call, err, no)
			return
		}
	}
}

func wantMatch(t *testing.T, pattern, p string, want bool) {
	t.Helper()
	got, err := glob.Match(pattern, p)
	if err != nil || got != want {
		t.Errorf("Match(%.300q, %.300q) is %v, %v, not %v", pattern, p, got, err, want)
	}
}

func wantNoPattern(t *testing.T, pattern, p string) {
	t.Helper()
	call := fmt.Sprintf("Match(%.300q, %.300q)", pattern, p)
	got, err := glob.Match(pattern, p)
	onlyError(t, call, err, api.ErrPattern)
	var fault api.Fault
	if got || errors.As(err, &fault) {
		t.Errorf("%s is %v, or its error tells a place", call, got)
	}
}

func wantFault(t *testing.T, text string, want api.Fault) {
	t.Helper()
	call := fmt.Sprintf("Parse(%.300q)", text)
	list, err := glob.Parse(text)
	onlyError(t, call, err, want.No)
	var fault api.Fault
	if list != nil || !errors.As(err, &fault) || fault != want {
		t.Errorf("%s: a list, or the fault %+v, not %+v", call, fault, want)
	}
}

func parse(t *testing.T, text string) *glob.List {
	t.Helper()
	list, err := glob.Parse(text)
	if err != nil || list == nil {
		t.Fatalf("Parse(%.300q) is refused: %v", text, err)
	}
	return list
}

func wantOut(t *testing.T, text, p string, want bool) {
	t.Helper()
	if got := parse(t, text).Out(p); got != want {
		t.Errorf("Out(%.300q) of the list %.300q is %v", p, text, got)
	}
}

func run(b string, n int) string { return strings.Repeat(b, n) }

// textsOf are all texts of at most n bytes of the alphabet.
func textsOf(alphabet string, n int) []string {
	all := []string{""}
	longest := all
	for range n {
		var next []string
		for _, s := range longest {
			for i := range len(alphabet) {
				next = append(next, s+alphabet[i:i+1])
			}
		}
		all = append(all, next...)
		longest = next
	}
	return all
}

func namesOf(p string) []string {
	return slices.DeleteFunc(strings.Split(p, "/"), func(s string) bool { return s == "" })
}

// token is a part of a piece as the chapter's table has it; star: any bytes.
type token struct {
	star bool
	set  [256]bool
}

// tokensOf reads a piece by the chapter's words; false: it is wrong.
func tokensOf(s string) ([]token, bool) {
	var all []token
	for i := 0; i < len(s); i++ {
		var one token
		switch {
		case s[i] == '*':
			one.star = true
		case s[i] == '?':
			for b := range one.set {
				one.set[b] = true
			}
		case s[i] == '[':
			end, ok := setOf(s, i+1, &one.set)
			if !ok {
				return nil, false
			}
			i = end
		case s[i] == '\\':
			i++
			if i == len(s) {
				return nil, false
			}
			one.set[s[i]] = true
		default:
			one.set[s[i]] = true
		}
		all = append(all, one)
	}
	return all, true
}

// setOf reads the set that begins behind the [ ahead of i; it answers the place of its ].
func setOf(s string, i int, set *[256]bool) (int, bool) {
	not := i < len(s) && (s[i] == '!' || s[i] == '^')
	if not {
		i++
	}
	begin := i
	for ; i < len(s); i++ {
		if s[i] == ']' && i > begin {
			for b := range set {
				set[b] = set[b] != not
			}
			return i, true
		}
		if s[i] == '\\' {
			i++
			if i == len(s) {
				return 0, false
			}
		}
		from, to := int(s[i]), int(s[i])
		if i+2 < len(s) && s[i+1] == '-' && s[i+2] != ']' {
			i += 2
			if s[i] == '\\' {
				i++
				if i == len(s) {
					return 0, false
				}
			}
			to = int(s[i])
		}
		if to < from {
			return 0, false
		}
		for b := from; b <= to; b++ {
			set[b] = true
		}
	}
	return 0, false
}

func tokensTake(tokens []token, name string) bool {
	if len(tokens) == 0 {
		return name == ""
	}
	if tokens[0].star {
		return tokensTake(tokens[1:], name) || name != "" && tokensTake(tokens, name[1:])
	}
	return name != "" && tokens[0].set[name[0]] && tokensTake(tokens[1:], name[1:])
}

func piecesTake(pieces, names []string) bool {
	if len(pieces) == 0 {
		return len(names) == 0
	}
	if pieces[0] == "**" {
		return piecesTake(pieces[1:], names) || len(names) > 0 && piecesTake(pieces, names[1:])
	}
	tokens, _ := tokensOf(pieces[0])
	return len(names) > 0 && tokensTake(tokens, names[0]) && piecesTake(pieces[1:], names[1:])
}

// isPattern, matches: what Match must answer.
func isPattern(pattern string) bool {
	for _, piece := range namesOf(pattern) {
		if _, ok := tokensOf(piece); !ok {
			return false
		}
	}
	return len(pattern) <= 1020 && len(namesOf(pattern)) > 0
}

func matches(pattern, p string) bool { return piecesTake(namesOf(pattern), namesOf(p)) }

// P2.1

func TestMeta(t *testing.T) {
	for _, s := range []string{"*", "?", "[", "a*b", "a?", "[a", "a/b[", "\\*", "\x00?"} {
		if !glob.Meta(s) {
			t.Errorf("Meta(%q) is false", s)
		}
	}
	for _, s := range []string{"", "a", "a\\b", "]", "!a", "^", "a-b", "/", "\x00", "\xff"} {
		if glob.Meta(s) {
			t.Errorf("Meta(%q) is true", s)
		}
	}
	for b := range 256 {
		if glob.Meta(string([]byte{'a', byte(b), 'c'})) != (b == '*' || b == '?' || b == '[') {
			t.Errorf("Meta of the byte %d", b)
		}
	}
}

// P2.2

func TestMatchSamples(t *testing.T) {
	for _, x := range []struct {
		pattern, p string
		want       bool
	}{
		{"a*c", "abbc", true}, {"a*c", "ac", true}, {"a*c", "ab/c", false}, {"a*c", "acb", false},
		{"/a//b/", "a/b", true}, {"a", "/a/", true}, {"a/b", "a//b/", true}, {"*", "", false}, {"*", "/", false}, {"*", "a", true},
		{"**/c", "c", true}, {"**/c", "a/b/c", true}, {"a/**/c", "a/c", true}, {"a/**", "a", true}, {"**", "", true}, {"**", "a/b", true},
		{"**/c", "c/d", false}, {"a/**", "", false}, {"a/**/c", "a", false}, {"**/**", "", true}, {"**/a/**", "", false},
		{"a**c", "a/c", false}, {"a**c", "abc", true}, {"***", "a", true}, {"***", "a/b", false}, {"***", "", false},
		{"?", "ab", false}, {"?b", "ab", true}, {"?", "", false}, {"?", "\xff", true}, {"?", "\u00e4", false}, {"??", "\u00e4", true},
		{"[a-c]x", "bx", true}, {"[!a-c]x", "bx", false}, {"[^a-c]x", "dx", true}, {"[]a]", "]", true}, {"[a-]", "-", true}, {"[a-]", "b", false},
		{"[\\]a]", "]", true}, {"[\\]a]", "a", true}, {"[\\]a]", "\\", false}, {"[^]]", "]", false}, {"[^]]", "a", true}, {"[!]a]", "b", true},
		{"[--0]", ".", true}, {"[--0]", "0", true}, {"[--0]", "1", false}, {"[a\\-c]", "b", false}, {"[a\\-c]", "-", true},
		{"[a-\\c]", "b", true}, {"[\\a-\\c]", "c", true}, {"[]-a]", "_", true}, {"[a-c-e]", "d", false}, {"[a-c-e]", "-", true},
		{"[!!]", "!", false}, {"[!^]", "^", false}, {"[^!]", "a", true}, {"[a!]", "!", true}, {"[*?]", "?", true}, {"[*?]", "a", false}, {"[[]", "[", true},
		{"[a]b]", "ab]", true}, {"[a-a]", "a", true}, {"[\x00-\xff]", "\x00", true}, {"[!\x00-\xff]", "a", false},
		{"a]", "a]", true}, {"\\*", "*", true}, {"\\*", "a", false}, {"\\a", "a", true}, {"\\\\", "\\", true}, {"\\[a]", "[a]", true}, {"\\**", "*ab", true}, {"\\**", "ab", false},
		{"*\\*", "a", false}, {"\\*\\*", "a/b", false}, {"\\*\\*", "**", true},
		{"A", "a", false}, {"[A-Z]", "a", false}, {".*", "a", false}, {"*", ".a", true}, {"..", "..", true}, {"..", "", false}, {"a/./b", "a/b", false},
	} {
		wantMatch(t, x.pattern, x.p, x.want)
	}
}

func TestMatchRefuses(t *testing.T) {
	for _, s := range []string{
		"", "/", "//", "[ab", "[b-a]", "a\\", "[a/b]", "[", "[]", "[!", "[!]", "[^]", "[a-", "[a-\\", "[a\\", "[a\\]", "a\\/b", "a/b\\", "[/]", "*[", "\\",
		"b/[", "[/b", "a/**/[b-a]", "[a--]", "[a-\\]]", "[ab-\\a]", "[a-c", "[a][", "[z-a", run("a", 1021), run("/", 1020) + "a", run("/", 1020),
	} {
		for _, p := range []string{"a", "", "z/z"} {
			wantNoPattern(t, s, p)
		}
	}
	wantMatch(t, run("a", 1020), run("a", 1020), true)
	wantMatch(t, run("/", 1019)+"a", "a", true)
	wantMatch(t, run("a/", 510), run("a/", 509)+"a", true)
}

func TestMatchEveryByte(t *testing.T) {
	for b := range 256 {
		for c := range 256 {
			p := string([]byte{byte(c)})
			if c == '/' || c == 0 && b == 0 {
				continue
			}
			if b != '/' {
				wantMatch(t, "\\"+string([]byte{byte(b)}), p, b == c)
			}
			if strings.IndexByte("/*?[\\", byte(b)) < 0 {
				wantMatch(t, string([]byte{byte(b)}), p, b == c)
			}
			if strings.IndexByte("/\\]", byte(b)) < 0 && b >= 2 {
				wantMatch(t, "[\x02-"+string([]byte{byte(b)})+"]", p, 2 <= c && c <= b)
				wantMatch(t, "[!\x02-"+string([]byte{byte(b)})+"]", p, c < 2 || b < c)
			}
		}
	}
}

func TestMatchSmallTexts(t *testing.T) {
	compare := func(patterns, texts []string) {
		for _, pattern := range patterns {
			if !isPattern(pattern) {
				wantNoPattern(t, pattern, texts[len(texts)-1])
				continue
			}
			for _, p := range texts {
				wantMatch(t, pattern, p, matches(pattern, p))
			}
		}
	}
	compare(textsOf("ab*/", 5), textsOf("ab/", 4))
	compare(textsOf("a*?/\\", 4), textsOf("a*\\/", 4))
	compare(textsOf("[]-!ac\\", 5), []string{"", "a", "b", "c", "]", "-", "[", "!", "\\", "aa", "a]", "b]", "]]"})
	compare(textsOf("[]^/*a", 5), []string{"", "a", "b", "]", "^", "a/a", "a/b", "ab", "[", "a]"})
}

func TestMatchGreatTexts(t *testing.T) {
	wantMatch(t, run("*a", 510), run("a", 2000), true)
	wantMatch(t, run("*a", 509)+"*b", run("a", 2000), false)
	wantMatch(t, run("**/", 330)+"a", run("b/", 5000)+"a", true)
	wantMatch(t, run("**/a/", 200)+"b", run("a/", 5000), false)
	wantMatch(t, run("**/*/", 160)+"**", run("a/", 160), true)
	wantMatch(t, run("**/*/", 160)+"**", run("a/", 159), false)
	wantMatch(t, "*", run("a", 1<<20), true)
	wantMatch(t, "**/a", run("/", 1<<20)+"a", true)
}

// P2.3

func TestParseRefuses(t *testing.T) {
	for text, line := range map[string]int{
		"a\n\n[": 3, "!": 1, "[": 1, "a\n!\n[": 2, "#\n#\n \t\r\n//": 4, "! \t\r": 1, "a\\": 1, "a\\ ": 1, "![b-a]": 1, "\n\n\n\n/": 5, "a\n[\nb": 2,
		"!!\n!!!\n! /": 3, run("\n", 5000) + "[": 5001, run("a", 1021): 1, "!" + run("a", 1021): 1, "a\r[\n[": 1,
	} {
		wantFault(t, text, api.Fault{No: api.ErrPattern, Line: line})
	}
}

func TestParseTakes(t *testing.T) {
	for _, text := range []string{
		"", "\n", "\n\n", "#[", "  # [", "\t#\r\n", "a", "a\n", "!a", "! a", "!#", "!!", "\\!", "\\ a", " " + run("a", 1020) + "\t", "!" + run("a", 1020), "! \t" + run("a", 1020) + " \r",
	} {
		parse(t, text)
	}
}

func TestParseManyRules(t *testing.T) {
	full := run("a\n# \n\n!a\n", 128)
	wantOut(t, full, "a", false)
	wantOut(t, full+"\n# a\n \t\r", "a", false)
	wantFault(t, full+"a", api.Fault{No: api.ErrMany, Line: 513})
	wantFault(t, full+"#\n\n!a\n[", api.Fault{No: api.ErrMany, Line: 515})
	wantFault(t, full+"[", api.Fault{No: api.ErrMany, Line: 513})
	wantFault(t, full+"!", api.Fault{No: api.ErrMany, Line: 513})
	wantFault(t, "[\n"+full+"a\n", api.Fault{No: api.ErrPattern, Line: 1})
	wantFault(t, run("a\n", 255)+"[\na\na", api.Fault{No: api.ErrPattern, Line: 256})
}

// P2.4

func TestOutSamples(t *testing.T) {
	for _, x := range []struct {
		text, p string
		want    bool
	}{
		{"# all\n*.o\n!  keep.o\nbin", "x.o", true},
		{"# all\n*.o\n!  keep.o\nbin", "keep.o", false},
		{"# all\n*.o\n!  keep.o\nbin", "d/x.o", false},
		{"# all\n*.o\n!  keep.o\nbin", "bin/a/b", true},
		{"", "a", false}, {"", "", false}, {"a", "", false}, {"**", "", true}, {"**", "a/b", true}, {"*", "", false}, {"*", "a/b", true},
		{"a", "a/b/c", true}, {"a/b", "a", false}, {"a/b", "a/b/c", true}, {"a/b", "a/bc", false}, {"a", "/a//b", true},
		{"a\n!a", "a", false}, {"!a\na", "a", true}, {"a\n!a/b", "a/b/c", false}, {"a\n!a/b", "a/c", true}, {"!a/b\na", "a/b", true},
		{"  a\t\r", "a", true}, {"a b", "a b", true}, {"\va", "\va", true}, {"\va", "a", false}, {"a\xc2\xa0", "a\xc2\xa0", true},
		{"#a", "#a", false}, {"\\#a", "#a", true}, {"**\n!#a", "#a", false}, {"\\!a", "!a", true}, {"**\n!!a", "!a", false}, {"**\n!!a", "a", true}, {"a#", "a#", true},
		{"a\rb", "a\rb", true}, {"a\r\nb\r\n", "b", true}, {"a\r\nb\r\n", "a", true}, {"**/x\n!**/y/x", "a/y/x", false}, {"**/x", "a/x/b", true}, {"a/**", "a", true},
		{"a/**/c", "a/b/c/d", true}, {"a/**/c", "a/b", false}, {"/a", "a", true}, {"a/", "a", true}, {"a\n\n!b", "a", true},
	} {
		wantOut(t, x.text, x.p, x.want)
	}
}

// meets: what the chapter says of a rule.
func meets(pattern, p string) bool {
	names := namesOf(p)
	for n := range len(names) + 1 {
		if piecesTake(namesOf(pattern), names[:n]) {
			return true
		}
	}
	return false
}

type line struct {
	back    bool
	pattern string
}

func outOf(lines []line, p string) bool {
	out := false
	for _, l := range lines {
		if meets(l.pattern, p) {
			out = !l.back
		}
	}
	return out
}

func textOf(lines []line) string {
	var all []string
	for _, l := range lines {
		all = append(all, map[bool]string{true: "!", false: ""}[l.back]+l.pattern)
	}
	return strings.Join(all, "\n")
}

// smallLists hands out lists of up to three rules with small patterns.
func smallLists(yield func([]line) bool) {
	var rules []line
	for _, pattern := range []string{"a", "b", "a/b", "**/b", "a/**", "*", "*/b", "a/**/a", "**", "a/?", "[!a]"} {
		rules = append(rules, line{false, pattern}, line{true, pattern})
	}
	for _, one := range rules {
		if !yield([]line{one}) {
			return
		}
		for _, two := range rules {
			for _, three := range rules {
				if !yield([]line{one, two, three}) {
					return
				}
			}
		}
	}
}

func TestOutOfSmallLists(t *testing.T) {
	texts := append(textsOf("ab/", 4), "a/b/a/b", "b/b/b")
	for lines := range smallLists {
		list := parse(t, textOf(lines))
		for _, p := range texts {
			if got := list.Out(p); got != outOf(lines, p) {
				t.Errorf("Out(%q) of the list %q is %v", p, textOf(lines), got)
			}
		}
	}
}

// P2.5

func entries(paths ...string) []api.Entry {
	var all []api.Entry
	for i, p := range paths {
		all = append(all, api.Entry{Path: p, Kind: api.Kind(i % 4), Mode: i, Data: "d" + p, Link: "l"})
	}
	return all
}

func pathsOf(t []api.Entry) []string {
	var all []string
	for _, e := range t {
		all = append(all, e.Path)
	}
	return all
}

func wantKept(t *testing.T, text string, given, want []string) {
	t.Helper()
	if got := pathsOf(parse(t, text).Keep(entries(given...))); !slices.Equal(got, want) {
		t.Errorf("Keep of %q by %q is %q, not %q", given, text, got, want)
	}
}

func TestKeepSamples(t *testing.T) {
	wantKept(t, "d\n!d/y", []string{"d", "d/x.o", "d/y"}, []string{"d", "d/y"})
	wantKept(t, "", []string{"b", "a", "a", ""}, []string{"b", "a", "a", ""})
	wantKept(t, "**", []string{"", "a", "a/b"}, nil)
	wantKept(t, "a", nil, nil)
	wantKept(t, "**\n!a/b/c", []string{"a/b/c", "a/b", "a", "", "a/c", "a/b.c", "a/bc", "ab"}, []string{"a/b/c", "a/b", "a", ""})
	wantKept(t, "**\n!a/b", []string{"/a", "a", "a/", "a//b", "/"}, []string{"a", "a/", "a//b"})
	wantKept(t, "a", []string{"a", "a.b", "a/", "a/b", "a.b/c", "b"}, []string{"a.b", "a.b/c", "b"})
	wantKept(t, "**\n!a/c\n!a.b", []string{"a.b", "a/c", "a", ""}, []string{"a.b", "a/c", "a", ""})
	wantKept(t, "*\n!b", []string{"a", "b/c", "b", "a", "b/c"}, []string{"b/c", "b", "b/c"})
	wantKept(t, "**\n!**/z", []string{"", "/", "//", "//z"}, []string{"", "/", "//z"})
}

func TestKeepAnswersWholeEntries(t *testing.T) {
	given := append(make([]api.Entry, 0, 9), entries("a", "b", "c")...)
	before := slices.Clone(given)
	list := parse(t, "b")
	got := list.Keep(given)
	if !slices.Equal(got, []api.Entry{before[0], before[2]}) {
		t.Errorf("Keep is %+v", got)
	}
	got = append(got[:cap(got)], got...)
	clear(got)
	if !slices.Equal(given, before) || given[:9][3] != (api.Entry{}) {
		t.Error("Keep's answer shares memory with what was given")
	}
	again := list.Keep(given)
	if len(again) != 2 || again[0] != before[0] {
		t.Error("Keep asked again is another")
	}
}

func TestKeepOfSmallLists(t *testing.T) {
	rows := [][]string{
		{"a", "a/a", "a/b", "a/b/a", "a/b/b", "b", "b/a", "b/a/b"},
		{"b/a/b", "a", "a/b/a", "", "a//b", "/b", "a", "a/", "b/b"},
	}
	for lines := range smallLists {
		for _, row := range rows {
			var want []string
			for _, p := range row {
				stays := !outOf(lines, p)
				for _, q := range row {
					stays = stays || path.Below(p, q) && !outOf(lines, q)
				}
				if stays {
					want = append(want, p)
				}
			}
			wantKept(t, textOf(lines), row, want)
		}
	}
}

func TestKeepOfGreatLists(t *testing.T) {
	var paths, want []string
	for i := range 60 {
		dir := fmt.Sprintf("d%02d", i)
		paths = append(paths, dir)
		for k := range 60 {
			paths = append(paths, fmt.Sprintf("%s/f%02d", dir, k))
		}
		if i%10 == 7 {
			want = append(want, dir, dir+"/f33")
		}
	}
	wantKept(t, "**\n!d?7/f33", paths, want)
	long := run("a/", 100000)
	wantKept(t, "**\n!**/x", []string{long, long + "x", "a"}, []string{long + "x", "a"})
}

// P2.6

func TestEscapedPathMatchesItself(t *testing.T) {
	texts := textsOf("*[\\/", 4)
	for _, p := range append(textsOf("a!]-^?#/", 3), texts...) {
		var pattern strings.Builder
		for i := range len(p) {
			if p[i] != '/' {
				pattern.WriteByte('\\')
			}
			pattern.WriteByte(p[i])
		}
		if len(namesOf(p)) == 0 {
			wantNoPattern(t, pattern.String(), p)
			continue
		}
		for _, q := range append([]string{p, "/" + p, p + "/", p + "x", strings.ReplaceAll(p, "/", "//")}, texts...) {
			wantMatch(t, pattern.String(), q, slices.Equal(namesOf(p), namesOf(q)))
		}
	}
}

// P2.7

func TestManyNamesAheadAndBehind(t *testing.T) {
	texts := textsOf("ab/", 5)
	for _, pattern := range textsOf("a?*/", 4) {
		if !isPattern(pattern) {
			continue
		}
		for _, p := range texts {
			names := namesOf(p)
			ahead, behind := false, false
			for n := range len(names) + 1 {
				first, _ := glob.Match(pattern, strings.Join(names[:n], "/"))
				last, _ := glob.Match(pattern, strings.Join(names[n:], "/"))
				ahead, behind = ahead || last, behind || first
			}
			wantMatch(t, "**/"+pattern, p, ahead)
			wantMatch(t, pattern+"/**", p, behind)
		}
	}
	wantMatch(t, "**/"+run("a", 1017), "b/"+run("a", 1017), true)
	wantNoPattern(t, "**/"+run("a", 1018), "b/"+run("a", 1018))
}

// P2.8

func TestLastLineGoesAhead(t *testing.T) {
	texts := textsOf("ab/", 4)
	for lines := range smallLists {
		if len(lines) < 3 {
			continue
		}
		before, last := parse(t, textOf(lines[:2])), lines[2]
		all := parse(t, textOf(lines[:2])+"\n"+textOf(lines[2:]))
		for _, p := range texts {
			want := before.Out(p)
			if meets(last.pattern, p) {
				want = !last.back
			}
			if all.Out(p) != want {
				t.Errorf("Out(%q) of the list %q is %v", p, textOf(lines), !want)
			}
		}
	}
}

// P2.9

func TestKeepOfATree(t *testing.T) {
	tree := entries("a", "a/a", "a/a/b", "a/b", "a/b/a", "a/b/b", "b", "b/a", "b/a/b", "c")
	for lines := range smallLists {
		list := parse(t, textOf(lines))
		kept := list.Keep(tree)
		paths := pathsOf(kept)
		for _, e := range kept {
			if parent := path.Parent(e.Path); parent != "" && !slices.Contains(paths, parent) {
				t.Errorf("Keep by %q has %q without its parent", textOf(lines), e.Path)
			}
			reason := !list.Out(e.Path)
			for _, p := range paths {
				reason = reason || path.Below(e.Path, p) && !list.Out(p)
			}
			if !reason {
				t.Errorf("Keep by %q has %q, and nothing that isn't out below it", textOf(lines), e.Path)
			}
		}
		for _, e := range tree {
			if !list.Out(e.Path) && !slices.Contains(paths, e.Path) {
				t.Errorf("Keep by %q has not %q", textOf(lines), e.Path)
			}
		}
		if again := list.Keep(kept); !slices.Equal(again, kept) {
			t.Errorf("Keep by %q of what was kept is another", textOf(lines))
		}
		if !slices.IsSortedFunc(paths, path.Compare) {
			t.Errorf("Keep by %q is out of order", textOf(lines))
		}
	}
}
