package expand_test

import (
	"errors"
	"fmt"
	"math/rand"
	"slices"
	"strings"
	"testing"

	"strata/api"
	"strata/expand"
	"strata/words"
)

// vars: A is x, B is empty, C is not there, D has in it what is not looked at again; keys that are no names are asked for by nothing.
var vars = []api.Pair{
	{Key: "A", Val: "old"}, {Key: "B", Val: "old"}, {Key: "", Val: "no"}, {Key: "1", Val: "no"}, {Key: "{", Val: "no"}, {Key: "a", Val: "small"},
	{Key: "D", Val: `$A 'q'`}, {Key: "B"}, {Key: "A", Val: "x"}, {Key: "AB2_", Val: "long"}, {Key: "_", Val: "line"},
}

// bytesOf has each byte that does something, and some that don't.
const bytesOf = "A$\"'\\{}:-+"

// tokens are parts of words that are often told.
var tokens = []string{"$A", "${A}", "${C", "${B:-", "${A:-", "${A:+", "${C:+", "}", "'", `"`, `\`, "$", "x", "$D"}

// calls are Word and Doc, with their second tellings.
var calls = []struct {
	name  string
	call  func(string, byte, []api.Pair) (string, error)
	plain func(string, byte, []api.Pair) told
}{{"Word", expand.Word, plainWord}, {"Doc", expand.Doc, plainDoc}}

// eachText calls f with all texts of at most so many of the parts.
func eachText(parts []string, most int, f func(s string)) {
	var grow func(s string, left int)
	grow = func(s string, left int) {
		f(s)
		for _, part := range parts {
			if left > 0 {
				grow(s+part, left-1)
			}
		}
	}
	grow("", most)
}

// wantText fails unless a call answered a text, or, where a number is wanted, was refused by that alone, without a place.
func wantText(t *testing.T, call, got string, err error, want string, no api.Errno) {
	t.Helper()
	if got != want || (err == nil) != (no == api.OK) {
		t.Fatalf("%.300s is %.300q, %v, not %.300q, %v", call, got, err, want, no)
	}
	if err == nil {
		return
	}
	for n := api.ErrArg; n <= api.ErrEmpty; n++ {
		if errors.Is(err, n) != (n == no) {
			t.Fatalf("%.300s: the error is %v, not %v", call, err, no)
		}
	}
	if fault := (api.Fault{}); errors.As(err, &fault) {
		t.Fatalf("%.300s tells the place %d:%d", call, fault.Line, fault.At)
	}
}

func wantWord(t *testing.T, raw string, escape byte, want string, no api.Errno) {
	t.Helper()
	got, err := expand.Word(raw, escape, vars)
	wantText(t, fmt.Sprintf("Word(%.300q, %q)", raw, escape), got, err, want, no)
}

func wantDoc(t *testing.T, s string, escape byte, want string, no api.Errno) {
	t.Helper()
	got, err := expand.Doc(s, escape, vars)
	wantText(t, fmt.Sprintf("Doc(%.300q, %q)", s, escape), got, err, want, no)
}

func wantNames(t *testing.T, raw string, escape byte, want []string) {
	t.Helper()
	if got := expand.Names(raw, escape); !slices.Equal(got, want) {
		t.Fatalf("Names(%.300q, %q) is %.300q, not %.300q", raw, escape, got, want)
	}
}

// agrees fails unless all calls answer what the second telling does.
func agrees(t *testing.T, s string, escape byte) {
	t.Helper()
	for _, c := range calls {
		got, err := c.call(s, escape, vars)
		want := c.plain(s, escape, vars)
		wantText(t, fmt.Sprintf("%s(%q, %q)", c.name, s, escape), got, err, want.text, want.no)
	}
	wantNames(t, s, escape, plainWord(s, escape, vars).names)
}

func randomText(rnd *rand.Rand, most int) string {
	var s strings.Builder
	for range rnd.Intn(most) {
		switch rnd.Intn(4) {
		case 0:
			s.WriteByte(byte(rnd.Intn(256)))
		case 1:
			s.WriteByte(bytesOf[rnd.Intn(len(bytesOf))])
		default:
			s.WriteString(tokens[rnd.Intn(len(tokens))])
		}
	}
	return s.String()
}

func TestExamples(t *testing.T) {
	for _, x := range [][2]string{
		{`a$A-${A}b`, `ax-xb`}, {`$AB`, ``}, {`$A.B`, `x.B`}, {`${A}B`, `xB`},
		{`${B:-y}`, `y`}, {`${C:-y}`, `y`}, {`${A:-y}`, `x`}, {`${A:+y}`, `y`}, {`${C:+y}`, ``},
		{`${C:-a${A}b}c`, `axbc`}, {`${C:-"}"}`, `}`}, {`${C:-\}}`, `}`}, {`${A:+${C:-z}}`, `z`},
		{`'$A "'`, `$A "`}, {`"$A '"`, `x '`}, {`"\$A \" \\ \x"`, `$A " \ \x`}, {`\$A\ b\'`, `$A b'`}, {`a""b''`, `ab`},
		{`$D`, `$A 'q'`}, {`"$D"`, `$A 'q'`}, {`$`, `$`}, {`$$A`, `$x`}, {`$1`, `$1`}, {`a}b`, `a}b`}, {`\`, `\`},
	} {
		wantWord(t, x[0], '\\', x[1], api.OK)
	}
	for _, raw := range []string{`'a`, `"a`, `"a\"`, `${A:-"b`} {
		wantWord(t, raw, '\\', "", api.ErrQuote)
	}
	for _, raw := range []string{`${`, `${A`, `${1}`, `${}`, `${A:}`, `${A-b}`, `${A:-b`, `"${A`, `${A:-'b}'`, `${A:-${}'`} {
		wantWord(t, raw, '\\', "", api.ErrForm)
	}
	wantDoc(t, `a 'b' "$A" \$A \\ \x $C.`, '\\', `a 'b' "x" $A \ \x .`, api.OK)
	wantDoc(t, `${C:-'}'}`, '\\', `}`, api.OK)
	wantDoc(t, `'$`, '\\', `'$`, api.OK)
	wantDoc(t, `${C:-'}`, '\\', ``, api.ErrQuote)
	wantNames(t, `$A${B:-$C${A}}"$D"'$E'`, '\\', []string{"A", "B", "C", "D"})
	wantNames(t, `$A'`, '\\', nil)
	wantWord(t, `$$A`, '$', `$A`, api.OK)
	wantWord(t, `a$`, '$', `a$`, api.OK)
}

// P15.1

func TestWordVariables(t *testing.T) {
	for _, x := range [][2]string{
		{`$AB2_-`, `long-`}, {`${AB2_}2`, `long2`}, {`$_.`, `line.`}, {`$_A`, ``}, {`$a$A`, `smallx`}, {`$A1`, ``}, {`${A}1`, `x1`},
		{`$1A`, `$1A`}, {`$-`, `$-`}, {`$ A`, `$ A`}, {"$\xc3\xa9", "$\xc3\xa9"}, {"$A\xc3\xa9", "x\xc3\xa9"}, {`$:-A`, `$:-A`},
		{`$'A'`, `$A`}, {`$"A"`, `$A`}, {`"$"A`, `$A`}, {`$\A`, `$A`}, {`$}`, `$}`}, {`{A}`, `{A}`}, {`$A{B}`, `x{B}`},
		{`${D}`, `$A 'q'`}, {`${D:-y}`, `$A 'q'`}, {`${C:-$D}`, `$A 'q'`}, {`${A:+$D}`, `$A 'q'`},
		{`${C:-}`, ``}, {`${A:+}`, ``}, {`${A:-}`, `x`}, {`${B:+}`, ``}, {`${C:--}`, `-`}, {`${C:-+}`, `+`}, {`${A:+:-}`, `:-`},
		{`${C:-{}}`, `{}`}, {`${C:-a}b}`, `ab}`}, {`${A:-a}b}`, `xb}`}, {`${C:-'}'"}"\}}}`, `}}}}`},
		{`${A:-'}'"}"\}}}`, `x}`}, {`${C:-"${C:-"}"}"}`, `}`}, {`"${C:-'"'}"`, `"`}, {`"${C:-"a b"}"`, `a b`}, {`"${C:-}}"`, `}`},
		{`${A:+${B:+${A}q}r}s`, `rs`}, {`${B:+${A:+a}b}c`, `c`}, {`${A:-${B:-a}b}c`, `xc`}, {`${B:-${C:-${B:-${A}}}}`, `x`},
		{`${A:+1${C:+2${A:+3}4}5}6`, `156`}, {`${C:+1${A:+2${C:-3}4}5}6`, `6`},
	} {
		wantWord(t, x[0], '\\', x[1], api.OK)
	}
}

func TestWordQuotesAndEscapes(t *testing.T) {
	for _, x := range [][2]string{
		{``, ``}, {`''`, ``}, {`""`, ``}, {`'a\'b`, `a\b`}, {`'a"b'"a'b"`, `a"ba'b`}, {`'${'`, `${`},
		{`\a\\\"\$\}\{`, `a\"$}{`}, {"\\\x00\\\xff\\\n", "\x00\xff\n"}, {`a\`, `a\`}, {`\\`, `\`}, {`\\\`, `\\`},
		{`"\a\\\"\$\}\'"`, `\a\"$\}\'`}, {"\"\\\x00\\\n\"", "\\\x00\\\n"}, {`"$A\$A${A}"`, `x$Ax`}, {`"}"`, `}`}, {`"a b"' c'`, `a b c`},
		{`${C:-\a\\\'}`, `a\'`}, {`"${C:-\a\\\'}"`, `a\'`}, {`\${A}`, `${A}`}, {`\${`, `${`}, {`$\{`, `${`},
	} {
		wantWord(t, x[0], '\\', x[1], api.OK)
	}
	wantWord(t, "`$A\\$A\"`\"\\\"", '`', "$A\\x\"\\", api.OK)
}

// Any byte may be the escape. It is looked at ahead of all else, but within what makes a variable.
func TestWordAnyEscape(t *testing.T) {
	for _, x := range []struct {
		escape    byte
		raw, want string
		no        api.Errno
	}{
		{'$', `$A`, `A`, 0}, {'$', `${A}`, `{A}`, 0}, {'$', `$$`, `$`, 0}, {'$', `"$A$$$""`, `$A$"`, 0}, {'$', `"a$`, ``, api.ErrQuote},
		{'\'', `''`, `'`, 0}, {'\'', `'$A'`, `$A'`, 0}, {'\'', `"'"''$'"`, ``, api.ErrQuote}, {'\'', `"'"''a'b"`, `"'a'b`, 0},
		{'"', `"$A"`, `$A"`, 0}, {'"', `""'a"'`, `"a"`, 0},
		{'A', `$A`, `x`, 0}, {'A', `${A}`, `x`, 0}, {'A', `A$A`, `$A`, 0}, {'A', `${A:-A}}`, `x`, 0}, {'A', `${C:-A}}`, `}`, 0}, {'C', `$C.`, `.`, 0},
		{'{', `${A}`, `x`, 0}, {'{', `{$A`, `$A`, 0}, {'{', `${C:-{}}`, `}`, 0}, {'{', `$`, `$`, 0},
		{'}', `${A}$A`, `xx`, 0}, {'}', `${C:-a}`, ``, api.ErrForm}, {'}', `${C:-a}}`, ``, api.ErrForm}, {'}', `${C:-}`, ``, api.ErrForm}, {'}', `a}$A}`, `a$A}`, 0},
		{':', `${A:-b}`, `x`, 0}, {':', `${C::-b}`, ``, api.ErrForm}, {':', `${C:-:}}`, `}`, 0}, {':', `:$A:`, `$A:`, 0},
		{'-', `${C:-b}`, `b`, 0}, {'-', `${C:--}}`, `}`, 0}, {'+', `${A:+b}`, `b`, 0}, {'+', `${A:++}}`, `}`, 0},
		{0, "\x00$A\\$A", `$A\x`, 0}, {255, "\xff'\xff", "'\xff", 0}, {' ', `a b '`, `ab'`, 0}, {' ', `a b  '`, ``, api.ErrQuote}, {' ', `a  '' '`, `a '`, 0},
	} {
		wantWord(t, x.raw, x.escape, x.want, x.no)
	}
}

// What is wrong is told from left to right, and at the end what was opened last.
func TestWordWrong(t *testing.T) {
	for _, x := range []struct {
		raw string
		no  api.Errno
	}{
		{`"${A:-`, api.ErrForm}, {`"${A:-'`, api.ErrQuote}, {`"${A:-"`, api.ErrQuote}, {`"${A:-""`, api.ErrForm}, {`"${A:-}`, api.ErrQuote},
		{`${A:-"${B:+`, api.ErrForm}, {`${A:-"${B:+}`, api.ErrQuote}, {`${A:-"${B:+}"`, api.ErrForm}, {`${A:-"${B:+}"}'`, api.ErrQuote},
		{`'${`, api.ErrQuote}, {`"${`, api.ErrForm}, {`'a'"`, api.ErrQuote}, {`"'`, api.ErrQuote}, {`'"`, api.ErrQuote}, {`"\`, api.ErrQuote},
		{`${ A}`, api.ErrForm}, {`${A }`, api.ErrForm}, {`${A:=b}`, api.ErrForm}, {`${A:`, api.ErrForm}, {`${A:-`, api.ErrForm}, {`${A:+`, api.ErrForm},
		{`${A-}`, api.ErrForm}, {`${A+b}`, api.ErrForm}, {`${$A}`, api.ErrForm}, {`${'A'}`, api.ErrForm}, {`${A'}'`, api.ErrForm}, {`${A\}}`, api.ErrForm},
		{`${1A}`, api.ErrForm}, {"${\xc3\xa9}", api.ErrForm}, {`${A:-\`, api.ErrForm}, {`${A:-\}`, api.ErrForm}, {`$A${`, api.ErrForm}, {`${{A}}`, api.ErrForm},
		{`${A:-${1}}`, api.ErrForm}, {`${A:-${B:-'}`, api.ErrQuote}, {`${A:-'`, api.ErrQuote}, {`${C:+'`, api.ErrQuote}, {`${C:+${A:}}`, api.ErrForm}, {`'a' ${ '`, api.ErrForm},
	} {
		wantWord(t, x.raw, '\\', "", x.no)
	}
}

func TestTooMany(t *testing.T) {
	full := strings.Repeat("x", api.MaxValue)
	long := []api.Pair{{Key: "A", Val: full}, {Key: "B", Val: full + "x"}, {Key: "H", Val: full[:api.MaxValue/2]}}
	for _, x := range []struct{ raw, want string }{
		{full, full}, {"$A", full}, {"${A:-$A}", full}, {"${A:+$A}", full}, {"${C:-$A}", full}, {"$H${H}", full}, {"$A${C:+$A$B}", full}, {"${A:+}$A", full},
		{"${A:+}", ""}, {"${B:+b}", "b"}, {"${C:+$B}", ""}, {"${B:+${B:+}${C:+$B}}", ""}, {"${H:-$B}", full[:api.MaxValue/2]},
	} {
		for _, c := range calls {
			got, err := c.call(x.raw, '\\', long)
			wantText(t, fmt.Sprintf("%s(%.50q)", c.name, x.raw), got, err, x.want, api.OK)
		}
	}
	for _, raw := range []string{full + "x", "$B", "${A}y", "y${A}", "$A$A", "${A:+$A$A}", "${C:-${A}z}", "${B:-}", "$H${H}y", "$H.$H", "$A${C:-y}", "$A$C${H:+.}", "$B$C"} {
		for _, c := range calls {
			got, err := c.call(raw, '\\', long)
			wantText(t, fmt.Sprintf("%s(%.50q)", c.name, raw), got, err, "", api.ErrMany)
		}
	}
	for _, x := range []struct {
		raw string
		no  api.Errno
	}{{"$A$A${", api.ErrForm}, {"$B'", api.ErrQuote}, {full + "x\"", api.ErrQuote}, {"${B:-", api.ErrForm}, {full + "$A${A:-'", api.ErrQuote}} {
		got, err := expand.Word(x.raw, '\\', long)
		wantText(t, fmt.Sprintf("Word(%.50q)", x.raw), got, err, "", x.no)
	}
	// What stands for less than it is written with counts as what it comes to.
	got, err := expand.Word("'"+full+"'", '\\', nil)
	wantText(t, "Word of quotes", got, err, full, api.OK)
	got, err = expand.Word(strings.Repeat(`\x`, api.MaxValue), '\\', nil)
	wantText(t, "Word of escapes", got, err, full, api.OK)
	got, err = expand.Doc(strings.Repeat(`\\`, api.MaxValue), '\\', nil)
	wantText(t, "Doc of escapes", got, err, strings.Repeat(`\`, api.MaxValue), api.OK)
	got, err = expand.Word(`"`+strings.Repeat(`\x`, api.MaxValue/2)+`"`, '\\', nil)
	wantText(t, "Word of escapes in quotes", got, err, strings.Repeat(`\x`, api.MaxValue/2), api.OK)
	got, err = expand.Word(`"`+strings.Repeat(`\x`, api.MaxValue/2)+`y"`, '\\', nil)
	wantText(t, "Word of escapes in quotes", got, err, "", api.ErrMany)
}

// P15.2

func TestDoc(t *testing.T) {
	for _, x := range [][2]string{
		{"", ""}, {"a\n  b\n", "a\n  b\n"}, {"line $A\n${A}\n", "line x\nx\n"}, {`"`, `"`}, {`'`, `'`}, {`'$A' "${A}`, `'x' "x`}, {`}`, `}`}, {`$`, `$`}, {`$1`, `$1`},
		{`\`, `\`}, {`\\`, `\`}, {`\\\`, `\\`}, {`\\$A`, `\x`}, {`\$A`, `$A`}, {`\${`, `${`}, {`\"\'\}`, `\"\'\}`}, {"\\\n", "\\\n"}, {`\a$A`, `\ax`},
		{`${C:-"a"}`, `a`}, {`${C:-'$A'}"`, `$A"`}, {`${C:-\a\}}`, `a}`}, {`"${C:-"}"}"`, `"}"`}, {`${C:-"\a"}\a`, `\a\a`}, {`${A:+${C:-'}'}}'`, `}'`}, {`$D`, `$A 'q'`},
	} {
		wantDoc(t, x[0], '\\', x[1], api.OK)
	}
	for _, s := range []string{`${`, `"${`, `'${'`, `${A`, `${A:}`, `${A:-`, `${A:-"}"`, `${A:-''`, `\\${`, `${A:-\}`} {
		wantDoc(t, s, '\\', "", api.ErrForm)
	}
	for _, s := range []string{`${A:-'`, `${A:-"`, `${A:+"}`, `'${A:-'`} {
		wantDoc(t, s, '\\', "", api.ErrQuote)
	}
	for _, x := range []struct {
		escape  byte
		s, want string
	}{
		{'`', "`$A`` `a\\$A", "$A` `a\\x"}, {'$', `$$A$A${`, `$A$A${`}, {'"', `"$A""a"`, `$A"a"`}, {'\'', `'$A'''`, `$A''`}, {'}', `${A}}}$A}`, `x}x}`}, {'A', `A$A$A.$A`, `$$A.x`},
		{'{', `${A}{{{$A`, `x{$A`}, {255, "\xff$A\xff\xff\xff", "$A\xff\xff"},
	} {
		wantDoc(t, x.s, x.escape, x.want, api.OK)
	}
}

// P15.1 to P15.3, held against the second telling.

func TestShortTexts(t *testing.T) {
	count := 0
	eachText(strings.Split(bytesOf, ""), 5, func(s string) {
		count++
		agrees(t, s, '\\')
	})
	if want := 1 + 10 + 100 + 1000 + 10000 + 100000; count != want {
		t.Fatalf("%d texts, not %d", count, want)
	}
	eachText(tokens, 4, func(s string) { agrees(t, s, '\\') })
}

func TestShortTextsAnyEscape(t *testing.T) {
	for _, escape := range []byte(bytesOf + "`Cx\x00\xff") {
		eachText(strings.Split(bytesOf, ""), 3, func(s string) { agrees(t, s, escape) })
		eachText(tokens, 3, func(s string) { agrees(t, s, escape) })
	}
	for escape := range 256 {
		own := string([]byte{byte(escape)})
		eachText([]string{own, "$A", "${C:-", "}", `"`, "'"}, 4, func(s string) { agrees(t, s, byte(escape)) })
	}
}

func TestRandomTexts(t *testing.T) {
	rnd := rand.New(rand.NewSource(15))
	for range 30000 {
		escape := byte('\\')
		if rnd.Intn(3) == 0 {
			escape = byte(rnd.Intn(256))
		}
		agrees(t, randomText(rnd, 14), escape)
	}
}

// Texts within texts, as deep as the document promises, and long texts, of which each byte is looked at just a few times.
func TestDeepAndLong(t *testing.T) {
	const deep = 1 << 16
	nest := func(open, within, end string) string {
		return strings.Repeat(open, deep) + within + strings.Repeat(end, deep)
	}
	for _, x := range []struct {
		raw, want string
		no        api.Errno
	}{
		{nest("${C:-", "y", "}"), "y", 0}, {nest("${A:+", "y", "}"), "y", 0}, {nest("${A:-", "y", "}"), "x", 0}, {nest("${C:+", "y", "}"), "", 0},
		{nest(`"${C:-`, "y", `}"`), "y", 0}, {nest("${A:+b", "y", "}"), "", api.ErrMany}, {nest("${A:+", "y", "}b"), "", api.ErrMany},
		{nest("${A:-b", "y", "}"), "x", 0}, {nest("${C:-", "y", ""), "", api.ErrForm}, {nest(`"${C:-`, "'", ""), "", api.ErrQuote}, {nest(`${C:-"`, "", ""), "", api.ErrQuote},
		{nest("${C:-", "${1}", "}"), "", api.ErrForm},
	} {
		wantWord(t, x.raw, '\\', x.want, x.no)
	}
	wantDoc(t, nest(`${C:-"`, "y", `"}`), '\\', "y", api.OK)
	wantNames(t, nest("${C:-", "$A", "}$B"), '\\', []string{"C", "A", "B"})
	const long = 1 << 22
	wantWord(t, strings.Repeat(`""`, long)+"y", '\\', "y", api.OK)
	wantWord(t, strings.Repeat(`$C`, long)+".", '\\', ".", api.OK)
	wantWord(t, "${C:+"+strings.Repeat(`$A'}'`, long)+"}y", '\\', "y", api.OK)
	wantWord(t, strings.Repeat(`a`, long), '\\', "", api.ErrMany)
	wantWord(t, "$"+strings.Repeat(`a`, long), '\\', "", api.OK)
}

func TestManyVariables(t *testing.T) {
	const many = 1 << 16
	var list []api.Pair
	var raw strings.Builder
	var names []string
	for i := range many {
		name := fmt.Sprintf("V%d", i)
		list = append(list, api.Pair{Key: name, Val: "no"})
		names = append(names, name)
		raw.WriteString("${" + name + "}")
	}
	for i := range many {
		list = append(list, api.Pair{Key: names[many-1-i], Val: string(rune('a' + (many-1-i)%26))})
	}
	got, err := expand.Word(raw.String(), '\\', list)
	if err != nil || len(got) != many || got[:4] != "abcd" || got[26:30] != "abcd" {
		t.Fatalf("%.50q, %v", got, err)
	}
	if got := expand.Names(raw.String()+raw.String(), '\\'); !slices.Equal(got, names) {
		t.Fatalf("%d names", len(got))
	}
}

// P15.3

func TestNames(t *testing.T) {
	for _, x := range []struct {
		raw  string
		want []string
	}{
		{``, nil}, {`a`, nil}, {`$`, nil}, {`$1`, nil}, {`'$A'`, nil}, {`\$A`, nil}, {`$A`, []string{"A"}}, {`$A1_b.c`, []string{"A1_b"}}, {`$B$A$B${A}`, []string{"B", "A"}},
		{`${A}`, []string{"A"}}, {`${A:-$B}`, []string{"A", "B"}}, {`${A:+$B}`, []string{"A", "B"}}, {`${A:+${B:-$C}$D}$E`, []string{"A", "B", "C", "D", "E"}},
		{`"${A:-"$B"'$C'}$D"`, []string{"A", "B", "D"}}, {`"'$A'"`, []string{"A"}}, {`$a$A$_`, []string{"a", "A", "_"}}, {`${C:-${B:+$A}}$C`, []string{"C", "B", "A"}},
		{`$A${`, nil}, {`$A"`, nil}, {`$A${B:-`, nil}, {`$A${B:-$C`, nil}, {`$A'$B`, nil}, {`${A:}`, nil},
	} {
		wantNames(t, x.raw, '\\', x.want)
	}
	wantNames(t, "`$A\\$B", '`', []string{"B"})
	wantNames(t, "$A", '$', nil)
	wantNames(t, "$A$B", 'A', []string{"A", "B"})
	// How long a word is has no bearing.
	wantNames(t, strings.Repeat("x", api.MaxValue+1)+"$A", '\\', []string{"A"})
}

// P15.4

func TestPlainTextIsItself(t *testing.T) {
	eachText([]string{"a", " ", "}", "{", ":-", "`", "\n", "\x00", "\xff", "#"}, 4, func(s string) {
		wantWord(t, s, '\\', s, api.OK)
		wantDoc(t, s+`"'`+s, '\\', s+`"'`+s, api.OK)
		wantNames(t, s, '\\', nil)
	})
}

// What Word tells hangs on the values of its names alone.
func TestOtherVariables(t *testing.T) {
	eachText(tokens, 4, func(s string) {
		got, err := expand.Word(s, '\\', vars)
		if err != nil {
			return
		}
		var few []api.Pair
		for _, name := range expand.Names(s, '\\') {
			for _, pair := range vars {
				if pair.Key == name {
					few = append(few, pair, api.Pair{Key: name + "0", Val: "other"})
				}
			}
		}
		again, err := expand.Word(s, '\\', few)
		wantText(t, fmt.Sprintf("Word(%q) with %q", s, few), again, err, got, api.OK)
	})
}

func TestWordOfQuote(t *testing.T) {
	eachText([]string{"a", " ", "\\", "`", "'", "\"", "$", "{", "}", "\n", "\xff"}, 4, func(s string) {
		for _, escape := range []byte("\\`") {
			wantWord(t, words.Quote(s, escape), escape, s, api.OK)
		}
	})
	for _, s := range []string{strings.Repeat("$", api.MaxValue), strings.Repeat(`\`, api.MaxValue), strings.Repeat("a", api.MaxValue)} {
		wantWord(t, words.Quote(s, '\\'), '\\', s, api.OK)
		wantWord(t, words.Quote(s+" ", '\\'), '\\', "", api.ErrMany)
	}
}

func TestTwoWords(t *testing.T) {
	var list []string
	eachText(append(slices.Clone(tokens), `\$A`), 3, func(s string) {
		if w := plainWord(s, '\\', vars); w.no == api.OK && !w.bare && !strings.HasSuffix(s, `\`) && !strings.HasSuffix(s, "$") {
			list = append(list, s)
		}
	})
	if len(list) < 100 {
		t.Fatalf("only %d words", len(list))
	}
	for _, a := range list {
		first, _ := expand.Word(a, '\\', vars)
		for _, b := range list {
			second, _ := expand.Word(b, '\\', vars)
			wantWord(t, a+b, '\\', first+second, api.OK)
		}
	}
}

// R3, R4: what is handed in is as it was, and an answer is new memory.
func TestMemory(t *testing.T) {
	room := append(slices.Clone(vars), api.Pair{Key: "A", Val: "spare"})
	kept := slices.Clone(room)
	given := room[:len(vars)]
	for _, raw := range tokens {
		expand.Word(raw+raw, '\\', given)
		expand.Doc(raw+raw, '\\', given)
	}
	if !slices.Equal(room, kept) {
		t.Fatalf("the variables are %q", room)
	}
	for _, none := range [][]api.Pair{nil, {}} {
		got, err := expand.Word("$A${A:-y}", '\\', none)
		wantText(t, "Word without variables", got, err, "y", api.OK)
	}
	first, second := expand.Names("$A$B$C", '\\'), expand.Names("$A$B$C", '\\')
	for i := range first[:cap(first)] {
		first[:cap(first)][i] = "other"
	}
	if !slices.Equal(second, []string{"A", "B", "C"}) {
		t.Fatalf("the names are %q", second)
	}
}
