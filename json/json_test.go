package json_test

import (
	"bytes"
	library "encoding/json"
	"errors"
	"fmt"
	"math"
	"math/rand"
	"slices"
	"strconv"
	"strings"
	"testing"
	"unicode/utf8"

	"strata/api"
	"strata/json"
)

// alone is a value that has nothing but its kind.
func alone(kind int) api.Json { return api.Json{Kind: kind} }

func number(n int64) api.Json { return api.Json{Kind: api.JNumber, Number: n} }

func text(s string) api.Json { return api.Json{Kind: api.JText, Text: s} }

func list(items ...api.Json) api.Json { return api.Json{Kind: api.JList, Items: items} }

func object(keys []string, items ...api.Json) api.Json {
	return api.Json{Kind: api.JObject, Keys: keys, Items: items}
}

// full is a value of that kind with all fields filled.
func full(kind int) api.Json {
	return api.Json{Kind: kind, Number: 5, Text: "t\xff", Items: []api.Json{number(1), {Kind: 9}}, Keys: []string{"k", "k"}}
}

// nested are n lists, one in the other.
func nested(n int) api.Json {
	v := list()
	for range n - 1 {
		v = list(v)
	}
	return v
}

// run is a text of n pieces.
func run(piece string, n int) string { return strings.Repeat(piece, n) }

// same tells whether two values have the same in all fields; nil and an empty list are the same.
func same(a, b api.Json) bool {
	return a.Kind == b.Kind && a.Number == b.Number && a.Text == b.Text && slices.Equal(a.Keys, b.Keys) && slices.EqualFunc(a.Items, b.Items, same)
}

// onlyError fails unless err is or wraps just the number no.
func onlyError(t *testing.T, call string, err error, no api.Errno) {
	t.Helper()
	for other := api.ErrArg; other <= api.ErrEmpty; other++ {
		if errors.Is(err, other) != (other == no) {
			t.Errorf("%s: the error is %v, not %v", call, err, no)
			return
		}
	}
}

func wantForm(t *testing.T, v api.Json, want string) {
	t.Helper()
	got, err := json.Print(v)
	if err != nil || got != want {
		t.Errorf("Print is %.300q, %v, not %.300q", got, err, want)
	}
}

func wantNoForm(t *testing.T, what string, v api.Json, no api.Errno) {
	t.Helper()
	call := "Print of " + what
	got, err := json.Print(v)
	onlyError(t, call, err, no)
	var fault api.Fault
	if got != "" || errors.As(err, &fault) {
		t.Errorf("%s is %.300q, or its error tells a place", call, got)
	}
}

func wantValue(t *testing.T, s string, want api.Json) {
	t.Helper()
	got, err := json.Parse(s)
	if err != nil || !same(got, want) {
		t.Errorf("Parse(%.300q) is %.300v, %v, not %.300v", s, got, err, want)
	}
}

func wantFault(t *testing.T, s string, no api.Errno, at int) {
	t.Helper()
	call := fmt.Sprintf("Parse(%.300q)", s)
	got, err := json.Parse(s)
	onlyError(t, call, err, no)
	want := api.Fault{No: no, At: at}
	var fault api.Fault
	if !same(got, api.Json{}) || !errors.As(err, &fault) || fault != want {
		t.Errorf("%s is %.300v with the fault %+v, not %+v", call, got, fault, want)
	}
}

// P4.1

func TestPrintDepth(t *testing.T) {
	wantForm(t, nested(31), run("[", 31)+run("]", 31))
	wantForm(t, nested(32), run("[", 32)+run("]", 32))
	wantNoForm(t, "33 lists", nested(33), api.ErrMany)
	wantNoForm(t, "34 lists", nested(34), api.ErrMany)
	wantNoForm(t, "50000 lists", nested(50000), api.ErrMany)
	for _, inner := range []api.Json{alone(api.JNull), number(1), text("a"), object(nil)} {
		v := inner
		for i := range 31 {
			if i%2 == 0 {
				v = list(v)
			} else {
				v = object([]string{"k"}, v)
			}
		}
		if _, err := json.Print(v); err != nil {
			t.Errorf("a value of kind %d, 32 deep, is refused: %v", inner.Kind, err)
		}
		wantNoForm(t, "a value 33 deep", list(v), api.ErrMany)
	}
}

func TestPrintKinds(t *testing.T) {
	for _, kind := range []int{-1 << 63, -1, 7, 8, 9, 1<<63 - 1} {
		wantNoForm(t, "a kind that is none", alone(kind), api.ErrKind)
		wantNoForm(t, "a list with a kind that is none", list(number(1), full(kind)), api.ErrKind)
		wantNoForm(t, "an object with a kind that is none", object([]string{"a"}, full(kind)), api.ErrKind)
	}
	wantNoForm(t, "two keys and one item", object([]string{"a", "b"}, number(1)), api.ErrKind)
	wantNoForm(t, "one key and two items", object([]string{"a"}, number(1), number(2)), api.ErrKind)
	wantNoForm(t, "a key and no item", object([]string{"a"}), api.ErrKind)
	wantNoForm(t, "an item without a key", object(nil, number(1)), api.ErrKind)
}

// notUtf8 are texts that aren't UTF-8, with the place of their first wrong byte.
var notUtf8 = []struct {
	text string
	at   int
}{
	{"\xff", 0}, {"\x80", 0}, {"a\xbf", 1}, {"é\xc3", 2}, {"\xc3é", 0},
	{"\xc0\x80", 0}, {"\xc1\xbf", 0}, {"\xe0\x9f\xbf", 0}, {"\xf0\x8f\xbf\xbf", 0},
	{"\xed\xa0\x80", 0}, {"a\xed\xbf\xbf", 1}, {"\xf4\x90\x80\x80", 0}, {"\xf5\x80\x80\x80", 0}, {"\xf8\x88\x80\x80\x80", 0},
	{"€\xe2\x82", 3}, {"\xe2\x82a", 0}, {"\U0010ffff\xf0\x9f\x98", 4}, {"\ufffd\xef\xbf", 3}, {"ab\xfe\xff", 2},
}

// utf8Edges are the first and last characters of each length.
const utf8Edges = "\x00\x7f\u0080\u07ff\u0800\ud7ff\ue000\ufffd\uffff\U00010000\U0010ffff"

func TestPrintTexts(t *testing.T) {
	for _, x := range notUtf8 {
		wantNoForm(t, "a text that isn't UTF-8", text(x.text), api.ErrText)
		wantNoForm(t, "an item that isn't UTF-8", list(text("a"), text(x.text)), api.ErrText)
		wantNoForm(t, "a key that isn't UTF-8", object([]string{"a", x.text}, number(1), number(2)), api.ErrText)
	}
	wantForm(t, text(utf8Edges[1:]), `"`+utf8Edges[1:]+`"`)
}

func TestPrintKeys(t *testing.T) {
	wantNoForm(t, "a key twice", object([]string{"a", "a"}, number(1), number(1)), api.ErrTwice)
	wantNoForm(t, "a key twice, others between", object([]string{"b", "a", "", "c", "b"}, number(1), number(2), number(3), number(4), number(5)), api.ErrTwice)
	wantNoForm(t, "the empty key twice", object([]string{"", ""}, number(1), number(1)), api.ErrTwice)
	wantForm(t, object([]string{"a", "A", "a ", ""}, number(1), number(2), number(3), number(4)), `{"":4,"A":2,"a":1,"a ":3}`)
	wantForm(t, list(object([]string{"a"}, object([]string{"a"}, number(1))), object([]string{"a"}, number(2))), `[{"a":{"a":1}},{"a":2}]`)
}

// The order of the refusals: a value ahead of its items, these in their order, with all that is in them.
func TestPrintOrder(t *testing.T) {
	bad := api.Json{Kind: 9}
	wrong := text("\xff")
	twice := object([]string{"a", "a"}, bad, bad)
	deep := nested(33)
	for _, x := range []struct {
		what string
		v    api.Json
		no   api.Errno
	}{
		{"a kind and a text", list(bad, wrong), api.ErrKind},
		{"a text and a kind", list(wrong, bad), api.ErrText},
		{"a text within, and a kind behind", list(list(list(wrong)), bad), api.ErrText},
		{"a kind, and a text within", list(bad, list(list(wrong))), api.ErrKind},
		{"keys, and kinds below", twice, api.ErrTwice},
		{"the count of keys, and keys twice", object([]string{"a", "a"}, bad), api.ErrKind},
		{"keys twice ahead of one that isn't UTF-8", object([]string{"a", "a", "\xff"}, bad, bad, bad), api.ErrText},
		{"a key that isn't UTF-8, twice", object([]string{"\xff", "\xff"}, bad, bad), api.ErrText},
		{"lists, and a kind behind", list(deep, bad), api.ErrMany},
		{"a kind, and lists behind", list(bad, deep), api.ErrKind},
		{"an object in the order in which its items stand", object([]string{"b", "a"}, wrong, bad), api.ErrText},
		{"a key ahead of an item's key", object([]string{"a", "a"}, object([]string{"\xff"}, bad), bad), api.ErrTwice},
		{"lists in an object, and keys behind", object([]string{"b", "a"}, deep, twice), api.ErrMany},
	} {
		wantNoForm(t, x.what, x.v, x.no)
	}
	below := bad
	for range 32 {
		below = list(below)
	}
	wantNoForm(t, "what is no value, too deep", below, api.ErrMany)
	wantNoForm(t, "what is no value, 32 deep", below.Items[0], api.ErrKind)
}

func TestPrintLength(t *testing.T) {
	most := text(run("a", api.MaxJson-2))
	if form, err := json.Print(most); err != nil || len(form) != api.MaxJson {
		t.Errorf("a form of MaxJson bytes: %d bytes, %v", len(form), err)
	}
	wantNoForm(t, "a text of a byte more", text(run("a", api.MaxJson-1)), api.ErrMany)
	wantNoForm(t, "a list of a byte more", list(text(run("a", api.MaxJson-3))), api.ErrMany)
	if _, err := json.Print(list(text(run("a", api.MaxJson-4)))); err != nil {
		t.Errorf("a list of MaxJson bytes: %v", err)
	}
	sixth := run("\x01", (api.MaxJson-2)/6)
	if form, err := json.Print(text(sixth + "aa")); err != nil || len(form) != api.MaxJson {
		t.Errorf("a text of MaxJson bytes with escapes: %d bytes, %v", len(form), err)
	}
	wantNoForm(t, "a text with escapes of a byte more", text(sixth+"aaa"), api.ErrMany)
	wantNoForm(t, "an object of a byte more", object([]string{run("k", api.MaxJson-5)}, number(1)), api.ErrMany)
	if _, err := json.Print(object([]string{run("k", api.MaxJson-6)}, number(1))); err != nil {
		t.Errorf("an object of MaxJson bytes: %v", err)
	}
	wantNoForm(t, "a form that is too long, and a kind at its end", list(most, most, api.Json{Kind: 9}), api.ErrKind)
	wantNoForm(t, "a form that is too long, and lists at its end", list(most, nested(32)), api.ErrMany)
}

// A value that is its own item stands deeper than any limit; the call ends all the same.
func TestPrintOfItself(t *testing.T) {
	items := make([]api.Json, 3)
	for i := range items {
		items[i] = list(items...)
		items[i].Items = items
	}
	wantNoForm(t, "a list that has itself", list(items...), api.ErrMany)
}

// Many values out of little memory: the form ends at MaxJson bytes, however many come behind.
func TestPrintShared(t *testing.T) {
	v := text(run("x", 1000))
	for range 20 {
		v = list(v, v)
	}
	wantNoForm(t, "a million texts", v, api.ErrMany)
}

// P4.2

func TestPrintForms(t *testing.T) {
	for _, x := range []struct {
		v    api.Json
		want string
	}{
		{alone(api.JNull), "null"},
		{alone(api.JFalse), "false"},
		{alone(api.JTrue), "true"},
		{number(0), "0"},
		{number(7), "7"},
		{number(-7), "-7"},
		{number(1000), "1000"},
		{number(math.MaxInt64), "9223372036854775807"},
		{number(math.MinInt64), "-9223372036854775808"},
		{text(""), `""`},
		{text("a\"b\\\n"), `"a\"b\\\u000a"`},
		{text("/\x7f'<>&\u2028\u2029é😀"), "\"/\x7f'<>&\u2028\u2029é😀\""},
		{text(`\u0041`), `"\\u0041"`},
		{list(), "[]"},
		{list(number(1)), "[1]"},
		{list(number(1), text(","), list(), object(nil)), `[1,",",[],{}]`},
		{object(nil), "{}"},
		{object([]string{"b", "a"}, number(1), list(number(2), alone(api.JNull))), `{"a":[2,null],"b":1}`},
		{object([]string{"\"", "\\", "\x1f", "\x00"}, number(1), number(2), number(3), number(4)), `{"\u0000":4,"\u001f":3,"\"":1,"\\":2}`},
		{object([]string{"é", "z", "Z", "ab", "a", "\uffff", "😀"}, number(1), number(2), number(3), number(4), number(5), number(6), number(7)), "{\"Z\":3,\"a\":5,\"ab\":4,\"z\":2,\"é\":1,\"\uffff\":6,\"😀\":7}"},
	} {
		wantForm(t, x.v, x.want)
	}
}

func TestPrintEachByte(t *testing.T) {
	for b := range 0x80 {
		want := string(rune(b))
		if b < 0x20 {
			want = fmt.Sprintf(`\u%04x`, b)
		} else if b == '"' || b == '\\' {
			want = `\` + want
		}
		wantForm(t, text("x"+string(rune(b))+"y"), `"x`+want+`y"`)
		wantForm(t, object([]string{string(rune(b))}, number(1)), `{"`+want+`":1}`)
	}
}

// Fields that a kind has not are not looked at.
func TestPrintOtherFields(t *testing.T) {
	for kind, want := range []string{"null", "false", "true", "5"} {
		wantForm(t, full(kind), want)
	}
	v := full(api.JText)
	v.Text = "t"
	wantForm(t, v, `"t"`)
	v = full(api.JList)
	v.Items = []api.Json{full(api.JNumber)}
	wantForm(t, v, "[5]")
	v = full(api.JObject)
	v.Items, v.Keys = []api.Json{full(api.JTrue)}, []string{"k"}
	wantForm(t, v, `{"k":true}`)
}

func TestPrintChangesNothing(t *testing.T) {
	keys := []string{"b", "a", "spare"}[:2]
	items := []api.Json{number(1), text("t"), alone(9)}[:2]
	v := object(keys, items...)
	wantForm(t, v, `{"a":"t","b":1}`)
	if !slices.Equal(keys[:3], []string{"b", "a", "spare"}) || items[0].Number != 1 || items[1].Text != "t" || items[:3][2].Kind != 9 {
		t.Error("Print changed its argument")
	}
}

// P4.3

func TestParseLength(t *testing.T) {
	wantFault(t, run(" ", api.MaxJson+1), api.ErrMany, 0)
	wantFault(t, run("\xff", api.MaxJson+1), api.ErrMany, 0)
	wantFault(t, "1"+run(" ", api.MaxJson), api.ErrMany, 0)
	wantValue(t, "1"+run(" ", api.MaxJson-1), number(1))
	wantValue(t, run("\n", api.MaxJson-1)+"1", number(1))
	wantFault(t, run(" ", api.MaxJson), api.ErrShort, api.MaxJson)
	wantFault(t, run("1", api.MaxJson), api.ErrForm, 0)
	wantFault(t, run(" ", api.MaxJson-1)+"\x80", api.ErrText, api.MaxJson-1)
	wantValue(t, `"`+run("a", api.MaxJson-2)+`"`, text(run("a", api.MaxJson-2)))
}

func TestParseWrongBytes(t *testing.T) {
	for _, x := range notUtf8 {
		wantFault(t, x.text, api.ErrText, x.at)
		wantFault(t, `!"`+x.text+`"`, api.ErrText, 2+x.at)
		wantFault(t, run("[", 40)+x.text, api.ErrText, 40+x.at)
	}
	wantValue(t, `"`+utf8Edges[1:]+`"`, text(utf8Edges[1:]))
	wantValue(t, "\"\ufffd\"", text("\ufffd"))
	wantFault(t, "é", api.ErrForm, 0)
	wantFault(t, "\ufeff1", api.ErrForm, 0)
}

func TestParseValues(t *testing.T) {
	for _, x := range []struct {
		s    string
		want api.Json
	}{
		{"null", alone(api.JNull)},
		{"false", alone(api.JFalse)},
		{"true", alone(api.JTrue)},
		{" \t\r\n null\n\r\t ", alone(api.JNull)},
		{"0", number(0)},
		{"-1", number(-1)},
		{"10", number(10)},
		{"9223372036854775807", number(math.MaxInt64)},
		{"-9223372036854775808", number(math.MinInt64)},
		{`""`, text("")},
		{`"abc"`, text("abc")},
		{"[]", list()},
		{"[ \n\t\r ]", list()},
		{"[[],[ [ ] ]]", list(list(), list(list()))},
		{"[1,2,3]", list(number(1), number(2), number(3))},
		{" [ 1 , 2 ] ", list(number(1), number(2))},
		{"[null,true,false]", list(alone(api.JNull), alone(api.JTrue), alone(api.JFalse))},
		{"{}", object(nil)},
		{"{ \n }", object(nil)},
		{`{"b":1,"a":2}`, object([]string{"b", "a"}, number(1), number(2))},
		{"\n{\t\"b\"\r:\n1 ,\t\"a\"\n:\r{ }\t}\n", object([]string{"b", "a"}, number(1), object(nil))},
		{`{"":0,"\u0000":1}`, object([]string{"", "\x00"}, number(0), number(1))},
		{` { "a" : [ 1 , -2 ] , "b":"\u00e9\/" } `, object([]string{"a", "b"}, list(number(1), number(-2)), text("é/"))},
		{`{"a":{"a":1},"b":{"a":1}}`, object([]string{"a", "b"}, object([]string{"a"}, number(1)), object([]string{"a"}, number(1)))},
	} {
		wantValue(t, x.s, x.want)
	}
}

func TestParseDepth(t *testing.T) {
	wantValue(t, run("[", 32)+run("]", 32), nested(32))
	wantValue(t, run("[ ", 32)+run(" ]", 32), nested(32))
	for _, x := range []struct {
		s  string
		no api.Errno
		at int
	}{
		{run("[", 33), api.ErrMany, 32},
		{run("[", 32) + "!", api.ErrMany, 32},
		{run("[", 32) + "1", api.ErrMany, 32},
		{run("[", 32) + "  1", api.ErrMany, 34},
		{run("[", 32) + "}", api.ErrMany, 32},
		{run("[", 32), api.ErrShort, 32},
		{run("[", 32) + " ", api.ErrShort, 33},
		{run("[", 31) + "!", api.ErrForm, 31},
		{run("[", 33) + run("]", 33), api.ErrMany, 32},
		{run("[", 100000), api.ErrMany, 32},
		{run(`{"a":`, 32), api.ErrShort, 160},
		{run(`{"a":`, 32) + "1", api.ErrMany, 160},
		{run(`{"a":`, 33), api.ErrMany, 160},
		{run(`{"a":`, 31) + "{!", api.ErrForm, 156},
		{run(`{"a":`, 31) + `{"a"!`, api.ErrForm, 159},
		{run("[", 31) + "[1,", api.ErrMany, 32},
	} {
		wantFault(t, x.s, x.no, x.at)
	}
	wantValue(t, run("[", 31)+"1"+run("]", 31), wrapped(number(1), 31))
}

// wrapped is a value in n lists.
func wrapped(v api.Json, n int) api.Json {
	for range n {
		v = list(v)
	}
	return v
}

func TestParseWords(t *testing.T) {
	for _, word := range []string{"null", "false", "true"} {
		for i := 1; i < len(word); i++ {
			wantFault(t, word[:i], api.ErrForm, 0)
			wantFault(t, "[1, "+word[:i]+"]", api.ErrForm, 4)
			wantFault(t, word[:i]+"x"+word[i+1:], api.ErrForm, 0)
		}
		wantFault(t, word+word, api.ErrLong, len(word))
		wantFault(t, strings.ToUpper(word), api.ErrForm, 0)
		wantFault(t, word[:1]+" "+word[1:], api.ErrForm, 0)
	}
	wantFault(t, "nullx", api.ErrLong, 4)
	wantFault(t, "[nullx]", api.ErrForm, 5)
	wantFault(t, "nan", api.ErrForm, 0)
}

func TestParseNumbers(t *testing.T) {
	for _, s := range []string{
		"01", "00", "-0", "-01", "-", "--1", "1-", "1-1", "1+1", "1.0", "1.", "1e1", "1E1", "1e", "0e0", "-.5", "1..2", "0.0",
		"9223372036854775808", "-9223372036854775809", "10000000000000000000", "99999999999999999999999", run("9", 5000), "1e400", "0e",
	} {
		wantFault(t, s, api.ErrForm, 0)
		wantFault(t, "[ "+s+"]", api.ErrForm, 2)
		wantFault(t, s+" !", api.ErrForm, 0)
	}
	for _, s := range []string{"+1", ".5", "e1", "E", "Infinity"} {
		wantFault(t, s, api.ErrForm, 0)
	}
	wantFault(t, "1_0", api.ErrLong, 1)
	wantFault(t, "0x1", api.ErrLong, 1)
	wantFault(t, "1 2", api.ErrLong, 2)
	wantFault(t, "1a", api.ErrLong, 1)
	for i := range 63 {
		for _, n := range []int64{1 << i, 1<<i - 1, -1 << i, -1<<i - 1} {
			wantValue(t, strconv.FormatInt(n, 10), number(n))
		}
	}
}

func TestParseForms(t *testing.T) {
	for _, x := range []struct {
		s  string
		no api.Errno
		at int
	}{
		{"", api.ErrShort, 0}, {"  ", api.ErrShort, 2},
		{"[", api.ErrShort, 1}, {"[ ", api.ErrShort, 2}, {"[1", api.ErrShort, 2}, {"[1 ", api.ErrShort, 3}, {"[1,", api.ErrShort, 3}, {"[1, ", api.ErrShort, 4}, {"[[]", api.ErrShort, 3},
		{"{", api.ErrShort, 1}, {"{ ", api.ErrShort, 2}, {`{"`, api.ErrShort, 2}, {`{"a"`, api.ErrShort, 4}, {`{"a" `, api.ErrShort, 5}, {`{"a":`, api.ErrShort, 5}, {`{"a": `, api.ErrShort, 6},
		{`{"a":1`, api.ErrShort, 6}, {`{"a":1 `, api.ErrShort, 7}, {`{"a":1,`, api.ErrShort, 7}, {`{"a":1, `, api.ErrShort, 8},
		{"[1,]", api.ErrForm, 3}, {"[1 , ]", api.ErrForm, 5}, {"[,1]", api.ErrForm, 1}, {"[1,,2]", api.ErrForm, 3}, {"[1 2]", api.ErrForm, 3}, {"[1}", api.ErrForm, 2}, {"[1:2]", api.ErrForm, 2}, {"[}", api.ErrForm, 1}, {"[1;2]", api.ErrForm, 2},
		{"{a:1}", api.ErrForm, 1}, {"{1:1}", api.ErrForm, 1}, {"{]", api.ErrForm, 1}, {"{,}", api.ErrForm, 1}, {"{[]:1}", api.ErrForm, 1}, {"{null:1}", api.ErrForm, 1}, {"{'a':1}", api.ErrForm, 1},
		{`{"a" 1}`, api.ErrForm, 5}, {`{"a",1}`, api.ErrForm, 4}, {`{"a"}`, api.ErrForm, 4}, {`{"a"::1}`, api.ErrForm, 5}, {`{"a":}`, api.ErrForm, 5}, {`{"a":,}`, api.ErrForm, 5},
		{`{"a":1,}`, api.ErrForm, 7}, {`{"a":1 , }`, api.ErrForm, 9}, {`{"a":1 "b":2}`, api.ErrForm, 7}, {`{"a":1]`, api.ErrForm, 6}, {`{"a":1,1}`, api.ErrForm, 7}, {`{"a":1:`, api.ErrForm, 6},
		{"]", api.ErrForm, 0}, {"}", api.ErrForm, 0}, {",", api.ErrForm, 0}, {":", api.ErrForm, 0}, {"!", api.ErrForm, 0}, {" a", api.ErrForm, 1}, {"\\", api.ErrForm, 0}, {"'a'", api.ErrForm, 0}, {"//", api.ErrForm, 0}, {"\x00", api.ErrForm, 0}, {"\v1", api.ErrForm, 0}, {"\u00a01", api.ErrForm, 0}, {"\f1", api.ErrForm, 0},
		{"1 2", api.ErrLong, 2}, {"[]]", api.ErrLong, 2}, {"{}}", api.ErrLong, 2}, {`""""`, api.ErrLong, 2}, {"[] []", api.ErrLong, 3}, {"1,", api.ErrLong, 1}, {"null!", api.ErrLong, 4}, {"1\x00", api.ErrLong, 1}, {"1 \t\r\n\v", api.ErrLong, 5}, {"1 /**/", api.ErrLong, 2},
	} {
		wantFault(t, x.s, x.no, x.at)
	}
}

func TestParseEachByteThere(t *testing.T) {
	for b := range 0x80 {
		s := string(rune(b))
		if !strings.Contains("nft-0123456789\"[{ \t\r\n", s) {
			wantFault(t, s, api.ErrForm, 0)
			wantFault(t, " "+s+" 1", api.ErrForm, 1)
		}
		if !strings.Contains(" \t\r\n", s) {
			wantFault(t, "[] "+s, api.ErrLong, 3)
		}
		if !strings.Contains(" \t\r\n,]", s) {
			wantFault(t, "[[]"+s, api.ErrForm, 3)
		}
		if !strings.Contains(" \t\r\n,}", s) {
			wantFault(t, `{"a":[]`+s, api.ErrForm, 7)
		}
		if !strings.Contains(" \t\r\n:", s) {
			wantFault(t, `{"a"`+s, api.ErrForm, 4)
		}
		if !strings.Contains(" \t\r\n\"}", s) {
			wantFault(t, "{"+s, api.ErrForm, 1)
		}
		if !strings.Contains(" \t\r\n\"", s) {
			wantFault(t, `{"a":1,`+s, api.ErrForm, 7)
		}
	}
}

func TestParseTwice(t *testing.T) {
	for _, x := range []struct {
		s  string
		no api.Errno
		at int
	}{
		{`{"a":1,"a":`, api.ErrTwice, 7},
		{`{"a":1,"a"`, api.ErrTwice, 7},
		{`{"a":1,"a"!`, api.ErrTwice, 7},
		{`{"a":1, "a"`, api.ErrTwice, 8},
		{`{"a":1,"b":2,"a":3}`, api.ErrTwice, 13},
		{`{"a":1,"\u0061":2}`, api.ErrTwice, 7},
		{`{"":1,"":2}`, api.ErrTwice, 6},
		{`{"\ud83d\ude00":1,"😀":2}`, api.ErrTwice, 18},
		{`{"a":1,"a`, api.ErrShort, 9},
		{`{"a":1,"a\x"`, api.ErrForm, 9},
		{`{"a":{"b":1,"b":2},"a":3}`, api.ErrTwice, 12},
		{`[{"a":1},{"a":2,"a":3}]`, api.ErrTwice, 16},
		{`{"a":!,"a":1}`, api.ErrForm, 5},
	} {
		wantFault(t, x.s, x.no, x.at)
	}
	wantValue(t, `{"a":1,"A":2,"a ":3}`, object([]string{"a", "A", "a "}, number(1), number(2), number(3)))
	var s strings.Builder
	for i := range 20000 {
		s.WriteString(`,"` + strconv.Itoa(i) + `":0`)
	}
	wantFault(t, "{"+s.String()[1:]+`,"17":0}`, api.ErrTwice, s.Len()+1)
}

func TestParseTexts(t *testing.T) {
	for _, x := range []struct{ s, want string }{
		{`\"\\\/\b\f\n\r\t`, "\"\\/\b\f\n\r\t"},
		{`\u0000\u001f\u0041\u00e9\u20AC\uFfFf\ud7ff\ue000`, "\x00\x1fAé€\uffff\ud7ff\ue000"},
		{`\uD83D\uDE00`, "😀"},
		{`\ud83d\ude00`, "😀"},
		{`\ud800\udc00\uDBFF\uDFFF`, "\U00010000\U0010ffff"},
		{`\u00410`, "A0"},
		{`\\u0041`, `\u0041`},
		{`\\\"`, `\"`},
		{"\x7f\u2028/'", "\x7f\u2028/'"},
		{`\ufffd`, "\ufffd"},
		{`a\nb`, "a\nb"},
	} {
		wantValue(t, `"`+x.s+`"`, text(x.want))
		wantValue(t, `{"`+x.s+`":1}`, object([]string{x.want}, number(1)))
	}
}

func TestParseTextFaults(t *testing.T) {
	for _, x := range []struct {
		s  string
		no api.Errno
		at int
	}{
		{`"`, api.ErrShort, 1}, {`"a`, api.ErrShort, 2}, {`"é`, api.ErrShort, 3},
		{`"\`, api.ErrShort, 2}, {`"\"`, api.ErrShort, 3}, {`"\\\`, api.ErrShort, 4},
		{`"\u`, api.ErrShort, 3}, {`"\u0`, api.ErrShort, 4}, {`"\u00`, api.ErrShort, 5}, {`"\u004`, api.ErrShort, 6}, {`"\u0041`, api.ErrShort, 7}, {`"\ud`, api.ErrShort, 4},
		{`"\ud800`, api.ErrShort, 7}, {`"\udbff`, api.ErrShort, 7}, {`"\ud800\`, api.ErrShort, 8}, {`"\ud800\u`, api.ErrShort, 9}, {`"\ud800\ud`, api.ErrShort, 10}, {`"\ud800\u004`, api.ErrShort, 12}, {`"\ud800\u000`, api.ErrShort, 12}, {`"\ud800\udc00`, api.ErrShort, 13},
		{`"\x"`, api.ErrForm, 1}, {`"ab\x"`, api.ErrForm, 3}, {`"\x`, api.ErrForm, 1}, {`"\U0041"`, api.ErrForm, 1}, {`"\ "`, api.ErrForm, 1}, {`"\'"`, api.ErrForm, 1}, {`"\0"`, api.ErrForm, 1}, {`"\a"`, api.ErrForm, 1}, {`"\v"`, api.ErrForm, 1}, {`"\é"`, api.ErrForm, 1}, {"\"\\\n\"", api.ErrForm, 1},
		{`"\u"`, api.ErrForm, 1}, {`"\u004"`, api.ErrForm, 1}, {`"\u00g0"`, api.ErrForm, 1}, {`"\u00g`, api.ErrForm, 1}, {`"\ug`, api.ErrForm, 1}, {`"\u+041"`, api.ErrForm, 1}, {`"\u 041"`, api.ErrForm, 1}, {`"\u00é0"`, api.ErrForm, 1}, {`"\u-041"`, api.ErrForm, 1}, {`"\u004G"`, api.ErrForm, 1}, {"\"\\u004`\"", api.ErrForm, 1}, {`"\u004@"`, api.ErrForm, 1}, {`"\u004/"`, api.ErrForm, 1}, {`"\u004:"`, api.ErrForm, 1},
		{`"\ud800"`, api.ErrForm, 1}, {`"a\ud800b"`, api.ErrForm, 2}, {`"\ud800x`, api.ErrForm, 1}, {`"\ud800\x`, api.ErrForm, 1}, {`"\ud800\n"`, api.ErrForm, 1}, {`"\ud800\ug`, api.ErrForm, 1}, {`"\ud800\u0041"`, api.ErrForm, 1}, {`"\ud800\u0041`, api.ErrForm, 1}, {`"\ud800\ud800\udc00"`, api.ErrForm, 1}, {`"\ud800\udbff"`, api.ErrForm, 1}, {`"\ud800\ue000"`, api.ErrForm, 1}, {`"\ud800\\"`, api.ErrForm, 1}, {`"\ud800\"`, api.ErrForm, 1}, {`"\ud800 \udc00"`, api.ErrForm, 1}, {`"\ud800\U`, api.ErrForm, 1}, {`"\udbff\udbff`, api.ErrForm, 1},
		{`"\udc00"`, api.ErrForm, 1}, {`"\udfff"`, api.ErrForm, 1}, {`"\udc00`, api.ErrForm, 1}, {`"\udc00\ud800"`, api.ErrForm, 1}, {`"é\udc00`, api.ErrForm, 3}, {`"\ud83d\ude00\ude00"`, api.ErrForm, 13},
		{"\"a\n\"", api.ErrForm, 2}, {"\"\x1f", api.ErrForm, 1}, {"\"\x00\"", api.ErrForm, 1}, {"\"é\t\"", api.ErrForm, 3}, {"\"\n\\x\"", api.ErrForm, 1}, {"\"\\x\n\"", api.ErrForm, 1},
		{"[1, \"\\x\"]", api.ErrForm, 5}, {"{\"a\n\":1}", api.ErrForm, 3},
	} {
		wantFault(t, x.s, x.no, x.at)
	}
	for b := range 0x20 {
		wantFault(t, `["ab`+string(rune(b))+`"]`, api.ErrForm, 4)
	}
}

func TestParseEachEscape(t *testing.T) {
	meant := map[byte]string{'"': "\"", '\\': "\\", '/': "/", 'b': "\b", 'f': "\f", 'n': "\n", 'r': "\r", 't': "\t"}
	for b := range 0x80 {
		s := `"\` + string(rune(b)) + `"`
		if want, ok := meant[byte(b)]; ok {
			wantValue(t, s, text(want))
		} else {
			wantFault(t, s, api.ErrForm, 1)
		}
	}
}

func TestParseEachCharacter(t *testing.T) {
	for c := range rune(0x10000) {
		s := fmt.Sprintf(`"\u%04x\u%04X"`, c, 'é')
		if c >= 0xd800 && c <= 0xdfff {
			wantFault(t, s, api.ErrForm, 1)
		} else {
			wantValue(t, s, text(string(c)+"é"))
		}
	}
	for c := rune(0x10000); c <= 0x10ffff; c += 61 {
		wantValue(t, fmt.Sprintf(`"\u%04x\u%04x"`, 0xd800+(c-0x10000)>>10, 0xdc00+(c-0x10000)&0x3ff), text(string(c)))
	}
}

// textsOf are the texts of at most n letters of an alphabet.
func textsOf(letters []string, n int) []string {
	all := []string{""}
	for start := 0; n > 0; n-- {
		end := len(all)
		for _, s := range all[start:end] {
			for _, letter := range letters {
				all = append(all, s+letter)
			}
		}
		start = end
	}
	return all
}

// read reads a text by the library's JSON, if it is one that the chapter knows.
func read(s string) (api.Json, bool) {
	if !utf8.ValidString(s) || !library.Valid([]byte(s)) {
		return api.Json{}, false
	}
	d := library.NewDecoder(strings.NewReader(s))
	d.UseNumber()
	return next(d, 1)
}

func next(d *library.Decoder, deep int) (api.Json, bool) {
	token, err := d.Token()
	if err != nil || deep > api.MaxNest {
		return api.Json{}, false
	}
	switch x := token.(type) {
	case nil:
		return alone(api.JNull), true
	case bool:
		if x {
			return alone(api.JTrue), true
		}
		return alone(api.JFalse), true
	case string:
		return text(x), true
	case library.Number:
		n, err := strconv.ParseInt(x.String(), 10, 64)
		return number(n), err == nil && x.String() != "-0"
	}
	v := list()
	if token == library.Delim('{') {
		v = object(nil)
	}
	ok := true
	for d.More() {
		if v.Kind == api.JObject {
			key, _ := d.Token()
			ok = ok && !slices.Contains(v.Keys, key.(string))
			v.Keys = append(v.Keys, key.(string))
		}
		item, fine := next(d, deep+1)
		ok = ok && fine
		v.Items = append(v.Items, item)
	}
	d.Token()
	return v, ok
}

// holds checks a text against the library, and its fault against the text up to it: that one is only too short, or, of one that is too long, taken.
func holds(t *testing.T, s string) {
	t.Helper()
	got, err := json.Parse(s)
	want, ok := read(s)
	if (err == nil) != ok || ok && !same(got, want) {
		t.Fatalf("Parse(%q) is %v, %v, not %v, %v", s, got, err, want, ok)
	}
	if err == nil {
		back(t, s, got)
		return
	}
	var fault api.Fault
	if !errors.As(err, &fault) || fault.Line != 0 || fault.At > len(s) || !same(got, api.Json{}) {
		t.Fatalf("Parse(%q) is %v with %+v", s, got, fault)
	}
	onlyError(t, s, err, fault.No)
	switch _, err := json.Parse(s[:fault.At]); fault.No {
	case api.ErrShort:
		if fault.At != len(s) {
			t.Fatalf("Parse(%q): ErrShort at %d", s, fault.At)
		}
	case api.ErrLong:
		if err != nil {
			t.Fatalf("Parse(%q): ErrLong at %d, but %v ahead of it", s, fault.At, err)
		}
	case api.ErrForm, api.ErrTwice, api.ErrMany:
		if before := (api.Fault{No: api.ErrShort, At: fault.At}); err != before {
			t.Fatalf("Parse(%q): %v at %d, but %v ahead of it", s, fault.No, fault.At, err)
		}
	default:
		t.Fatalf("Parse(%q): %v", s, fault.No)
	}
}

func TestParseAllShortTexts(t *testing.T) {
	for _, s := range textsOf([]string{"[", "]", "{", "}", ",", ":", `"`, "1", "-", " ", "null"}, 5) {
		holds(t, s)
	}
	for _, s := range textsOf([]string{`"a"`, "{", "}", ",", ":", "0", "\n"}, 7) {
		holds(t, s)
	}
}

// The library takes a half of a pair for the character FFFD: no text here has one.
func TestParseAllShortEscapes(t *testing.T) {
	for _, s := range textsOf([]string{`\`, `"`, "u", "0041", "00", "n", "é", "\x1f", `\u20ac`}, 6) {
		holds(t, `"`+s)
		holds(t, `{"`+s+`":1}`)
	}
}

func TestParseMixed(t *testing.T) {
	pieces := []string{"[", "]", "{", "}", ",", ":", `"a"`, `"b"`, `"\u0061"`, "1", "-20", "null", "true", "false", " ", "\n", `"`, "x", "[]", "{}", `{"k":`, "0"}
	random := rand.New(rand.NewSource(4))
	for range 100000 {
		var s bytes.Buffer
		for range random.Intn(14) {
			s.WriteString(pieces[random.Intn(len(pieces))])
		}
		holds(t, s.String())
	}
}

func TestParseNewMemory(t *testing.T) {
	s := `{"a":[1,[2]],"b":{"c":[]},"d":[3]}`
	v, err := json.Parse(s)
	if err != nil {
		t.Fatal(err)
	}
	spoil(&v)
	wantValue(t, s, object([]string{"a", "b", "d"}, list(number(1), list(number(2))), object([]string{"c"}, list()), list(number(3))))
}

// spoil overwrites all lists of a value, with their spare room.
func spoil(v *api.Json) {
	for i := range v.Items {
		spoil(&v.Items[i])
	}
	for i := range v.Items[:cap(v.Items)] {
		v.Items[:cap(v.Items)][i] = number(-99)
	}
	for i := range v.Keys[:cap(v.Keys)] {
		v.Keys[:cap(v.Keys)][i] = "spoilt"
	}
}

// spoilt counts the items and keys of a value that were overwritten.
func spoilt(v api.Json) int {
	n := 0
	if v.Number == -99 {
		n++
	}
	for _, key := range v.Keys {
		if key == "spoilt" {
			n++
		}
	}
	for _, item := range v.Items {
		n += spoilt(item)
	}
	return n
}

func TestParseListsShareNothing(t *testing.T) {
	v, err := json.Parse(`[[1,2,3],[4],{"a":[5,6,7,8,9],"b":{"c":1,"d":2,"e":3}},[]]`)
	if err != nil {
		t.Fatal(err)
	}
	for i := range v.Items {
		spoil(&v.Items[i])
		for _, later := range v.Items[i+1:] {
			if spoilt(later) > 0 {
				t.Fatal("two lists of one answer share memory")
			}
		}
	}
}

// P4.4

func wantItem(t *testing.T, v api.Json, key string, want api.Json) {
	t.Helper()
	got, ok := json.Get(v, key)
	if !ok || !same(got, want) {
		t.Errorf("Get(%v, %q) is %v, %v, not %v", v, key, got, ok, want)
	}
}

func wantNoItem(t *testing.T, v api.Json, key string) {
	t.Helper()
	got, ok := json.Get(v, key)
	if ok || !same(got, api.Json{}) {
		t.Errorf("Get(%v, %q) is %v, %v", v, key, got, ok)
	}
}

func TestGet(t *testing.T) {
	v := object([]string{"a", "b", ""}, number(1), number(2), list(text("x"), object([]string{"y"}, alone(api.JTrue))))
	wantItem(t, v, "a", number(1))
	wantItem(t, v, "b", number(2))
	wantItem(t, v, "", list(text("x"), object([]string{"y"}, alone(api.JTrue))))
	wantNoItem(t, v, "c")
	wantNoItem(t, v, "A")
	wantNoItem(t, v, "y")
	wantNoItem(t, object(nil), "")
	wantNoItem(t, list(v), "a")
	for kind := -1; kind <= 8; kind++ {
		if kind != api.JObject {
			wantNoItem(t, api.Json{Kind: kind, Items: v.Items, Keys: v.Keys}, "a")
		}
	}
}

// Get asks no more of an object than that it has the key, and an item of its number.
func TestGetOfWrongObjects(t *testing.T) {
	twice := object([]string{"a", "a", "\xff"}, number(1), number(2), number(3))
	wantItem(t, twice, "a", number(1))
	wantItem(t, twice, "\xff", number(3))
	short := object([]string{"a", "b", "c"}, number(1), number(2))
	wantItem(t, short, "b", number(2))
	wantNoItem(t, short, "c")
	wantNoItem(t, object([]string{"a"}), "a")
	wantItem(t, object([]string{"a"}, number(1), number(2)), "a", number(1))
	wantItem(t, object([]string{"a"}, alone(9)), "a", alone(9))
	wantItem(t, object([]string{"a"}, short), "a", short)
	wantItem(t, object([]string{"a"}, text("\xff")), "a", text("\xff"))
	wantItem(t, object([]string{"a"}, nested(1000)), "a", nested(1000))
}

// Fields that a kind has not are zero in what is answered.
func TestGetOtherFields(t *testing.T) {
	for kind := api.JNull; kind <= api.JTrue; kind++ {
		wantItem(t, object([]string{"a"}, full(kind)), "a", alone(kind))
		wantItem(t, object([]string{"a"}, list(full(kind))), "a", list(alone(kind)))
	}
	wantItem(t, object([]string{"a"}, full(api.JNumber)), "a", number(5))
	wantItem(t, object([]string{"a"}, full(api.JText)), "a", text("t\xff"))
	wantItem(t, object([]string{"a"}, full(api.JList)), "a", list(number(1), alone(9)))
	wantItem(t, object([]string{"a"}, full(api.JObject)), "a", object([]string{"k", "k"}, number(1), alone(9)))
}

func TestGetNewMemory(t *testing.T) {
	v := object([]string{"a", "b"}, list(number(1), list(number(2))), object([]string{"c"}, list(number(3))))
	for _, key := range v.Keys {
		got, _ := json.Get(v, key)
		spoil(&got)
	}
	if spoilt(v) > 0 {
		t.Error("what Get answered is the value's own memory")
	}
}

// P4.5, P4.6, P4.7

// sorted is a value with the keys of all objects rising.
func sorted(v api.Json) api.Json {
	made := v
	made.Keys = slices.Sorted(slices.Values(v.Keys))
	made.Items = slices.Clone(v.Items)
	for i, item := range v.Items {
		if v.Kind == api.JObject {
			i = slices.Index(made.Keys, v.Keys[i])
		}
		made.Items[i] = sorted(item)
	}
	return made
}

// back checks a value that was read out of s: its form is read as it again, and has no byte below 20.
func back(t *testing.T, s string, v api.Json) {
	t.Helper()
	form, err := json.Print(v)
	if err != nil {
		t.Fatalf("what was read out of %q has no form: %v", s, err)
	}
	if strings.ContainsFunc(form, func(c rune) bool { return c < 0x20 }) {
		t.Fatalf("a byte below 20 in %q", form)
	}
	again, err := json.Parse(form)
	if err != nil || !same(again, sorted(v)) {
		t.Fatalf("%q is read as %v, %v, not as %v", form, again, err, sorted(v))
	}
	if second, err := json.Print(again); err != nil || second != form {
		t.Fatalf("%q became %q, %v", form, second, err)
	}
}

// made is a value of all kinds, by a source of numbers, with fields that the kinds have not.
func made(random *rand.Rand, deep int) api.Json {
	v := api.Json{Kind: random.Intn(7), Number: random.Int63() - random.Int63(), Text: madeText(random)}
	if deep == 0 {
		v.Kind = random.Intn(5)
	}
	for range random.Intn(5) {
		if key := madeText(random); deep > 0 && !slices.Contains(v.Keys, key) {
			v.Keys, v.Items = append(v.Keys, key), append(v.Items, made(random, deep-1))
		}
	}
	return v
}

func madeText(random *rand.Rand) string {
	letters := []string{"a", "b", `"`, `\`, "\n", "\x00", "\x1f", "é", "😀", "/", "u0041", "\ufffd", "\x7f"}
	s := ""
	for range random.Intn(4) {
		s += letters[random.Intn(len(letters))]
	}
	return s
}

// bare is a value without the fields that the kinds have not.
func bare(v api.Json) api.Json {
	got, _ := json.Get(object([]string{"v"}, v), "v")
	return got
}

func TestThereAndBack(t *testing.T) {
	random := rand.New(rand.NewSource(5))
	for range 20000 {
		v := made(random, 4)
		form, err := json.Print(v)
		if err != nil {
			t.Fatal(err)
		}
		got, err := json.Parse(form)
		if err != nil || !same(got, sorted(bare(v))) {
			t.Fatalf("%q is read as %v, %v", form, got, err)
		}
		if want, ok := read(form); !ok || !same(got, want) {
			t.Fatalf("the library reads %q as %v, %v", form, want, ok)
		}
		back(t, form, got)
	}
}

// What is taken has a form, unless that has more than MaxJson bytes.
func TestTakenHasForm(t *testing.T) {
	for _, x := range []struct {
		s  string
		no api.Errno
	}{
		{`"` + run(`\n`, api.MaxJson/6) + `"`, api.OK},
		{`"` + run(`\n`, api.MaxJson/6+1) + `"`, api.ErrMany},
		{`"` + run(`\b`, (api.MaxJson-2)/6) + `"`, api.OK},
		{`"` + run(`\b`, api.MaxJson/2-1) + `"`, api.ErrMany},
		{"[" + run(" 1,", 100000) + " 1]", api.OK},
	} {
		v, err := json.Parse(x.s)
		if err != nil {
			t.Fatal(err)
		}
		if x.no == api.OK {
			back(t, x.s[:9], v)
		} else {
			wantNoForm(t, "escapes", v, x.no)
		}
	}
}

func TestNoBeginningIsRead(t *testing.T) {
	random := rand.New(rand.NewSource(6))
	for range 1000 {
		v := made(random, 3)
		form, err := json.Print(v)
		if err != nil {
			t.Fatal(err)
		}
		if v.Kind >= api.JText {
			for i := range form {
				if !utf8.ValidString(form[:i]) {
					continue
				}
				if _, err := json.Parse(form[:i]); err == nil {
					t.Fatalf("%q, a beginning of %q, is read", form[:i], form)
				}
			}
		}
		for b := range 0x80 {
			if v.Kind == api.JNumber || strings.Contains(" \t\r\n", string(rune(b))) {
				continue
			}
			wantFault(t, form+string(rune(b)), api.ErrLong, len(form))
		}
	}
	wantValue(t, "10", number(10))
}
