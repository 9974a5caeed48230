package jparse_test

import (
	"bytes"
	"encoding/json"
	"fmt"
	"math"
	"reflect"
	"regexp"
	"slices"
	"strings"
	"testing"
	"unicode/utf8"

	"avocet/api"
	"avocet/jlex"
	"avocet/jparse"
)

// The chapter's words, as patterns of letters that stand for words: v and t for values (t for a text), and the signs as they are.
var (
	whole = regexp.MustCompile(`\[(?:[vt](?:,[vt])*)?\]|\{(?:t:[vt](?:,t:[vt])*)?\}`)
	begun = regexp.MustCompile(`^(?:\[(?:[vt],)*|\{(?:t:[vt],)*t:)*(?:\[|[vt]|\{(?:t:[vt],)*t?|)$`)
)

// letterOf tells the letter that stands for a word.
func letterOf(kind int) string {
	return map[int]string{jlex.Open: "{", jlex.Close: "}", jlex.OpenList: "[", jlex.CloseList: "]", jlex.Colon: ":", jlex.Comma: ",", jlex.Truth: "v", jlex.Nothing: "v", jlex.Number: "v", jlex.Text: "t"}[kind]
}

// wantedError is what P7.1 says a text is refused with, worked out by the patterns, word by word.
func wantedError(b []byte) api.Errno {
	if len(b) > 20000 {
		return api.ErrBig
	}
	line := "" // the words so far, with each list and object that is closed as v
	keys := map[int][]string{}
	for at := 0; ; {
		w, e := jlex.Take(b, at)
		switch {
		case e != api.OK:
			return e
		case w.Kind == jlex.End && (line == "v" || line == "t"):
			return api.OK
		case w.Kind == jlex.End:
			return api.ErrText
		}
		at = w.Next
		isKey := w.Kind == jlex.Text && (strings.HasSuffix(line, "{") || strings.HasSuffix(line, ",") && inObject(line))
		line = whole.ReplaceAllString(line+letterOf(w.Kind), "v")
		if !begun.MatchString(line) {
			return api.ErrText
		}
		opened := strings.Count(line, "[") + strings.Count(line, "{")
		switch {
		case opened > 32:
			return api.ErrDeep
		case w.Kind == jlex.Open:
			keys[opened] = nil
		case isKey && slices.Contains(keys[opened], w.Text):
			return api.ErrTwice
		case isKey:
			keys[opened] = append(keys[opened], w.Text)
		}
	}
}

// inObject tells whether what was opened last, and is open, is an object.
func inObject(line string) bool {
	return strings.LastIndexByte(line, '{') > strings.LastIndexByte(line, '[')
}

// wantedTree is the tree of a text that is not refused, as the library's words have it.
func wantedTree(t *testing.T, b []byte) api.Json {
	t.Helper()
	d := json.NewDecoder(bytes.NewReader(b))
	d.UseNumber()
	return treeOf(t, d, tokenOf(t, d))
}

// tokenOf tells the library's next word.
func tokenOf(t *testing.T, d *json.Decoder) json.Token {
	t.Helper()
	token, err := d.Token()
	if err != nil {
		t.Fatalf("the library: %v", err)
	}
	return token
}

// treeOf is the tree whose first word is token.
func treeOf(t *testing.T, d *json.Decoder, token json.Token) api.Json {
	t.Helper()
	switch x := token.(type) {
	case nil:
		return null()
	case bool:
		return truth(x)
	case string:
		return text(x)
	case json.Number:
		n, err := x.Int64()
		if err != nil {
			t.Fatalf("the library: %v", err)
		}
		return number(n)
	case json.Delim:
		j := api.Json{Kind: api.JList}
		if x == '{' {
			j.Kind = api.JObj
		}
		for d.More() {
			if x == '{' {
				j.Keys = append(j.Keys, tokenOf(t, d).(string))
			}
			j.Items = append(j.Items, treeOf(t, d, tokenOf(t, d)))
		}
		tokenOf(t, d)
		return j
	}
	t.Fatalf("the library has %v", token)
	return api.Json{}
}

func null() api.Json { return api.Json{Kind: api.JNull} }

func truth(b bool) api.Json {
	if b {
		return api.Json{Kind: api.JBool, Int: 1}
	}
	return api.Json{Kind: api.JBool}
}

func number(n int64) api.Json { return api.Json{Kind: api.JInt, Int: n} }

func text(s string) api.Json { return api.Json{Kind: api.JText, Text: s} }

func list(items ...api.Json) api.Json { return api.Json{Kind: api.JList, Items: items} }

// object is an object of those keys, which are told with a space between them (- is the empty one).
func object(keys string, items ...api.Json) api.Json {
	j := api.Json{Kind: api.JObj, Items: items}
	for _, key := range strings.Fields(keys) {
		j.Keys = append(j.Keys, strings.Trim(key, "-"))
	}
	return j
}

// within is a tree within so many lists, or objects (of the key a).
func within(j api.Json, lists, objects int) api.Json {
	for range lists {
		j = list(j)
	}
	for range objects {
		j = object("a", j)
	}
	return j
}

// plain is a tree with its lists without elements nil (rule 3).
func plain(j api.Json) api.Json {
	var items []api.Json
	for _, item := range j.Items {
		items = append(items, plain(item))
	}
	j.Items = items
	if len(j.Keys) == 0 {
		j.Keys = nil
	}
	return j
}

// same tells by the library whether two trees are alike in all.
func same(a, b api.Json) bool {
	return reflect.DeepEqual(plain(a), plain(b))
}

// said tells a tree in a line that is not too long.
func said(j api.Json) string {
	return fmt.Sprintf("%.300s", fmt.Sprint(j))
}

// checkTree holds Parse of a text against the tree that is wanted, and the text against what it was.
func checkTree(t *testing.T, s string, want api.Json) {
	t.Helper()
	b := []byte(s)
	got, e := jparse.Parse(b)
	if e != api.OK || !same(got, want) {
		t.Fatalf("Parse(%.80q) = %s, %d, not %s", s, said(got), int(e), said(want))
	}
	if string(b) != s {
		t.Fatalf("Parse changed %.80q to %.80q", s, b)
	}
}

// checkRefused holds Parse's refusal of a text against the one that is wanted.
func checkRefused(t *testing.T, s string, want api.Errno) {
	t.Helper()
	b := []byte(s)
	got, e := jparse.Parse(b)
	if e != want || !reflect.DeepEqual(got, api.Json{}) {
		t.Fatalf("Parse(%.80q) = %s, %d, not nothing, %d", s, said(got), int(e), int(want))
	}
	if string(b) != s {
		t.Fatalf("Parse changed %.80q to %.80q", s, b)
	}
}

// checkWanted holds Parse of a text against the patterns and the library, and tells the error.
func checkWanted(t *testing.T, s string) api.Errno {
	t.Helper()
	e := wantedError([]byte(s))
	if e != api.OK {
		checkRefused(t, s, e)
		return e
	}
	checkTree(t, s, wantedTree(t, []byte(s)))
	checkMade(t, s)
	return e
}

// checkMade holds the tree of a text against P7.3, in its own words.
func checkMade(t *testing.T, s string) {
	t.Helper()
	j, e := jparse.Parse([]byte(s))
	if e != api.OK || deepOf(j) > 32 || jparse.Deep(j) != deepOf(j) || !may(j) {
		t.Fatalf("Parse(%.80q) = %s, %d", s, said(j), int(e))
	}
}

// may tells whether a tree has by its kind just what it may have, no key twice, and texts of characters.
func may(j api.Json) bool {
	zero := api.Json{Kind: j.Kind}
	switch j.Kind {
	case api.JNull:
	case api.JBool, api.JInt:
		zero.Int = j.Int
	case api.JText:
		zero.Text = j.Text
	case api.JList, api.JObj:
		zero.Items, zero.Keys = j.Items, j.Keys
	default:
		return false
	}
	once := slices.Compact(slices.Sorted(slices.Values(j.Keys)))
	right := reflect.DeepEqual(j, zero) && utf8.ValidString(j.Text) && len(once) == len(j.Keys) && !slices.ContainsFunc(once, notText)
	right = right && (j.Kind != api.JBool || j.Int == 0 || j.Int == 1) && (j.Kind != api.JList || len(j.Keys) == 0) && (j.Kind != api.JObj || len(j.Keys) == len(j.Items))
	return right && !slices.ContainsFunc(j.Items, func(item api.Json) bool { return !may(item) })
}

func notText(s string) bool { return !utf8.ValidString(s) }

// deepOf is how deep a tree is, counted from above: the greatest number of lists and objects on a way down.
func deepOf(j api.Json) int {
	row, deep := []api.Json{j}, 0
	for {
		var below []api.Json
		opened := false
		for _, item := range row {
			if item.Kind == api.JList || item.Kind == api.JObj {
				opened = true
				below = append(below, item.Items...)
			}
		}
		if !opened {
			return deep
		}
		deep++
		row = below
	}
}

// random tells numbers that hang on no rule; the same each time.
func random(seed uint64) func(below int) int {
	return func(below int) int {
		seed += 0x9e3779b97f4a7c15
		x := seed
		x = (x ^ x>>30) * 0xbf58476d1ce4e5b9
		x = (x ^ x>>27) * 0x94d049bb133111eb
		return int((x ^ x>>31) % uint64(below))
	}
}

// values is texts of each kind of value, with their trees.
func values() map[string]api.Json {
	return map[string]api.Json{
		"null": null(), "true": truth(true), "false": truth(false),
		"0": number(0), "-0": number(0), "1": number(1), "-7": number(-7), "9223372036854775807": number(math.MaxInt64), "-9223372036854775808": number(math.MinInt64),
		`""`: text(""), `"a"`: text("a"), `"true"`: text("true"), `"a\n\u00e4\ud83d\ude00"`: text("a\nä😀"), `"[1,2]"`: text("[1,2]"), `"ä€😀"`: text("ä€😀"),
		"[]": list(), "[ ]": list(), "{}": object(""), "{\n}": object(""), "[1]": list(number(1)), `{"a":1}`: object("a", number(1)),
		"[[]]": list(list()), "[{}]": list(object("")), `{"":{}}`: object("-", object("")), `{"a":[]}`: object("a", list()),
		`[1,"a",null,true]`: list(number(1), text("a"), null(), truth(true)), `{"b":1,"a":"b","":false}`: object("b a -", number(1), text("b"), truth(false)),
	}
}

// P7.1: the chapter's example.
func TestExample(t *testing.T) {
	checkTree(t, `{"a": [1, true]}`, api.Json{Kind: 6, Keys: []string{"a"}, Items: []api.Json{{Kind: 5, Items: []api.Json{{Kind: 3, Int: 1}, {Kind: 2, Int: 1}}}}})
	j, _ := jparse.Parse([]byte(`{"a": [1, true]}`))
	if jparse.Deep(j) != 2 {
		t.Errorf("it is %d deep", jparse.Deep(j))
	}
}

// P7.1: each kind of value alone, with white bytes around it, and at each place of a list and of an object.
func TestEachKindOfValue(t *testing.T) {
	one, two := number(1), text("2")
	for s, want := range values() {
		checkTree(t, s, want)
		checkTree(t, " \r\n\t"+s+"\t\n\r ", want)
		checkTree(t, "["+s+"]", list(want))
		checkTree(t, "["+s+`,1,"2"]`, list(want, one, two))
		checkTree(t, "[1, "+s+` ,"2"]`, list(one, want, two))
		checkTree(t, `[1,"2",`+s+"]", list(one, two, want))
		checkTree(t, `{"k":`+s+"}", object("k", want))
		checkTree(t, `{"k":`+s+`,"l":1,"":"2"}`, object("k l -", want, one, two))
		checkTree(t, `{"":1, "k" : `+s+` , "l":"2"}`, object("- k l", one, want, two))
		checkTree(t, `{"z":1,"l":"2","k":`+s+"}", object("z l k", one, two, want))
		checkTree(t, "["+s+","+s+",["+s+"],{\"x\":"+s+"}]", list(want, want, list(want), object("x", want)))
		for text := range values() {
			checkWanted(t, "["+s+","+text+"]")
			checkWanted(t, `{"a":`+s+`,"b":`+text+"}")
			checkRefused(t, s+" "+text, api.ErrText)
		}
	}
}

// P7.1: keys of all sorts, in the order of the text.
func TestKeys(t *testing.T) {
	checkTree(t, `{"b":1,"a":2,"c":3,"B":4}`, object("b a c B", number(1), number(2), number(3), number(4)))
	checkTree(t, `{"":1," ":2,"\u0000":3,"ä":4,"\n":5}`, api.Json{Kind: api.JObj, Keys: []string{"", " ", "\x00", "ä", "\n"}, Items: []api.Json{number(1), number(2), number(3), number(4), number(5)}})
	checkTree(t, `{"\ud83d\ude00":{"\u0041":null}}`, object("😀", object("A", null())))
	for _, key := range []string{"null", "true", "1", "-0", "[]", "{}", "a", "a:", "[1", `{"a":1}`, ""} {
		checkRefused(t, "{"+key+":1}", api.ErrText)
		checkRefused(t, `{"a":1,`+key+":1}", api.ErrText)
	}
	checkRefused(t, "{1.5:1}", api.ErrNumber)
	checkRefused(t, `{"a":1,99999999999999999999:1}`, api.ErrNumber)
}

// P7.1: just MaxJson bytes, and one more, whatever they are and whatever else is wrong with them.
func TestMostBytes(t *testing.T) {
	space := strings.Repeat(" ", 20000)
	checkTree(t, space[:19999]+"1", number(1))
	checkTree(t, "1"+space[:19999], number(1))
	checkTree(t, "["+space[:9990]+"2"+space[:10007]+"]", list(number(2)))
	checkTree(t, `"`+strings.Repeat("a", 19998)+`"`, text(strings.Repeat("a", 19998)))
	checkTree(t, `"`+strings.Repeat("ä", 9999)+`"`, text(strings.Repeat("ä", 9999)))
	items := "[" + strings.Repeat("1,", 9998) + "22]"
	checkTree(t, items, list(append(slices.Repeat([]api.Json{number(1)}, 9998), number(22))...))
	checkRefused(t, items+" ", api.ErrBig)
	checkRefused(t, items+"x", api.ErrBig)
	checkRefused(t, space+"1", api.ErrBig)
	checkRefused(t, "1"+space, api.ErrBig)
	checkRefused(t, space, api.ErrText)
	checkRefused(t, space+" ", api.ErrBig)
	checkRefused(t, `"`+strings.Repeat("a", 19999)+`"`, api.ErrBig)
	for s, e := range map[string]api.Errno{"x": api.ErrText, "1.5": api.ErrNumber, strings.Repeat("[", 33): api.ErrDeep, `{"":1,""`: api.ErrTwice, "]": api.ErrText, "1 2": api.ErrText} {
		checkRefused(t, s+space[len(s):], e)
		checkRefused(t, s+space[len(s)-1:], api.ErrBig)
		checkRefused(t, strings.Repeat(s, 20001), api.ErrBig)
	}
	checkRefused(t, strings.Repeat("[", 20000), api.ErrDeep)
	checkRefused(t, strings.Repeat("[", 20001), api.ErrBig)
}

// P7.1: an object of as many keys as a text has room for.
func TestManyKeys(t *testing.T) {
	var b strings.Builder
	want := api.Json{Kind: api.JObj}
	for n := range 2000 {
		fmt.Fprintf(&b, `,"%d":%d`, n, n%10)
		want.Keys = append(want.Keys, fmt.Sprint(n))
		want.Items = append(want.Items, number(int64(n%10)))
	}
	checkTree(t, "{"+b.String()[1:]+"}", want)
	for _, n := range []int{0, 1, 999, 1998, 1999} {
		checkRefused(t, fmt.Sprintf(`{%s,"%d"`, b.String()[1:], n), api.ErrTwice)
	}
}

// opening is so many words that open a list, or an object: which one a letter of form says, again and again.
func opening(form string, count int) (opened, closed string) {
	for place := range count {
		if form[place%len(form)] == '[' {
			opened, closed = opened+"[", "]"+closed
		} else {
			opened, closed = opened+`{"a":`, "}"+closed
		}
	}
	return opened, closed
}

// P7.1: lists and objects that are opened in just 31 others, and in 32.
func TestDepth(t *testing.T) {
	for _, form := range []string{"[", "{", "[{", "{[", "[[{", "{{[[["} {
		for count := range 40 {
			opened, closed := opening(form, count)
			for s := range values() {
				checkWanted(t, opened+s+closed)
			}
			checkWanted(t, opened+closed)
			for _, x := range []string{"[]", "{}"} {
				want := api.OK
				if count > 31 {
					want = api.ErrDeep
				}
				if got := checkWanted(t, opened+x+closed); got != want {
					t.Errorf("%s in %d of %s: %d", x, count, form, int(got))
				}
			}
		}
	}
	checkTree(t, strings.Repeat("[", 32)+strings.Repeat("]", 32), within(list(), 31, 0))
	checkTree(t, strings.Repeat(`{"a":`, 31)+"{}"+strings.Repeat("}", 31), within(object(""), 0, 31))
	checkTree(t, strings.Repeat("[", 32)+"7"+strings.Repeat("]", 32), within(number(7), 32, 0))
}

// P7.1: what opens too deep is told as soon as it opens, and nothing that stands behind it; what closes counts no more.
func TestDepthIsToldAtOnce(t *testing.T) {
	for _, form := range []string{"[", "{", "[{", "{["} {
		most, closed := opening(form, 32)
		for _, x := range []string{"[", "{"} {
			for _, rest := range []string{"", "]", "}", "?", "1.5", ",", `"a":1,"a"`, `"`, "[", "{", "]" + closed} {
				checkRefused(t, most+x+rest, api.ErrDeep)
			}
		}
		checkRefused(t, most+"?[", api.ErrText)
		checkRefused(t, most+"1.5[", api.ErrNumber)
		checkRefused(t, most+"1[", api.ErrText)
		checkRefused(t, most+"1", api.ErrText)
		checkRefused(t, most, api.ErrText)
	}
	full := within(list(), 31, 0)
	opened, closed := strings.Repeat("[", 31), strings.Repeat("]", 31)
	checkTree(t, opened+"[],[],{},[1]"+closed, within(list(list(), list(), object(""), list(number(1))), 30, 0))
	// The sum of what was opened is no depth.
	checkTree(t, "["+strings.Repeat("[],", 100)+"{}]", list(append(slices.Repeat([]api.Json{list()}, 100), object(""))...))
	checkTree(t, `{"x":`+opened+closed+`,"y":`+opened+closed+"}", object("x y", full.Items[0], full.Items[0]))
	checkRefused(t, `{"x":`+opened+closed+`,"y":`+opened+"[]"+closed+"}", api.ErrDeep)
	// A key twice, and one that opens too deep: the first of them.
	checkRefused(t, opened+`{"a":1,"a":[`, api.ErrTwice)
	checkRefused(t, opened+`{"a":[],"a":1`, api.ErrDeep)
	checkRefused(t, opened+`{"a":1,"b":[`, api.ErrDeep)
}

// P7.1: a key that its object has is told as soon as it is read, whatever follows; the same key elsewhere may be.
func TestKeysTwice(t *testing.T) {
	for _, rest := range []string{"", ":", ":2}", ":2", "}", ",", "?", "1.5", "[", ":?", ":1.5", ":[", ` "`, ":" + strings.Repeat("[", 40)} {
		checkRefused(t, `{"a":1,"a"`+rest, api.ErrTwice)
		checkRefused(t, `{"a":1,"b":2,"a"`+rest, api.ErrTwice)
		checkRefused(t, `{"a":1,"b":2,"b"`+rest, api.ErrTwice)
		checkRefused(t, `{"":{},"":`+rest, api.ErrTwice)
		checkRefused(t, `{"a":1,"\u0061"`+rest, api.ErrTwice)
		checkRefused(t, `[{},{"ä":[{"x":0}],"\u00e4"`+rest, api.ErrTwice)
		checkRefused(t, `{"x":{"a":1,"a"`+rest, api.ErrTwice)
		checkRefused(t, `{"a":{"a":1,"b":1},"a"`+rest, api.ErrTwice)
		checkRefused(t, `{"b":{"a":1},"a":{"b":1},"b"`+rest, api.ErrTwice)
	}
	one := number(1)
	checkTree(t, `{"a":{"a":{"a":1}}}`, object("a", object("a", object("a", one))))
	checkTree(t, `{"a":[{"a":1},{"a":1}],"b":{"a":1,"b":1}}`, object("a b", list(object("a", one), object("a", one)), object("a b", one, one)))
	checkTree(t, `{"x":{"b":1},"b":1}`, object("x b", object("b", one), one))
	checkTree(t, `{"x":{"b":1},"y":{"b":1}}`, object("x y", object("b", one), object("b", one)))
	checkTree(t, `{"a":"a","b":"a","c":["a","a"]}`, object("a b c", text("a"), text("a"), list(text("a"), text("a"))))
	checkTree(t, `{"a":1,"A":1,"a ":1,"aa":1,"":1}`, api.Json{Kind: api.JObj, Keys: []string{"a", "A", "a ", "aa", ""}, Items: slices.Repeat([]api.Json{one}, 5)})
	// A text that is no key is none twice.
	checkRefused(t, `{"a":1 "a"`, api.ErrText)
	checkRefused(t, `{"a" "a"`, api.ErrText)
	checkRefused(t, `{"a":"a" "a"`, api.ErrText)
	// What is wrong ahead of it is told.
	checkRefused(t, `{"a":1,,"a":1}`, api.ErrText)
	checkRefused(t, `{"a":1.5,"a":1}`, api.ErrNumber)
	checkRefused(t, `{"a":?,"a":1}`, api.ErrText)
}

// P7.1: commas and colons that are missing, too many, or at the end, and closing words that fit nothing.
func TestCommasAndColons(t *testing.T) {
	for _, s := range []string{
		"", " ", ",", ":", "]", "}", "[", "{", "[,", "[,]", "[,1]", "[1,]", "[1,,2]", "[1,2,,]", "[1 2]", "[1 2,3]", "[1,2 3]", "[1:2]", "[:]", "[1:]", `["a":1]`, "[}", "[1}", "[1,}", "[[]", "[]]", "[1]]", "[[],]", "[[]1]", "[[] []]", "[{}[]]",
		"{,}", `{,"a":1}`, `{"a":1,}`, `{"a":1,,"b":2}`, `{"a":1,"b":2,}`, `{"a":1 "b":2}`, `{"a" 1}`, `{"a"}`, `{"a":}`, `{"a",1}`, `{"a",}`, `{"a"::1}`, `{"a":1:2}`, `{"a":,}`, `{"a":1,"b"}`, `{"a":1,"b":}`, `{"a":1,:1}`, `{:1}`, "{:}", "{]", `{"a"]`, `{"a":]`, `{"a":1]`, `{"a":1,]`, "{}}", `{"a":1}}`, `{"a":{}`, `{"a":[}`, `{"a":[}]`, `{"a":[1}`, `{[]:1}`, `{"a":{]}`, `["a",:]`,
		"1,", "1:", "1]", "1}", ",1", ":1", "[],", "{}:", `"a":1`, `"a",`, "null null", "[][]", "{}{}", "[]1", "1[]", `{}"a"`, "true,false", "1 2",
	} {
		checkRefused(t, s, api.ErrText)
		if checkWanted(t, s) != api.ErrText {
			t.Errorf("the patterns take %q", s)
		}
		for _, around := range []string{"[0,%s", `{"x":%s`, "[[%s", `[{"x":0,"y":%s`} {
			checkWanted(t, fmt.Sprintf(around, s))
			checkWanted(t, fmt.Sprintf(around, s)+"]")
			checkWanted(t, fmt.Sprintf(around, s)+"}")
		}
	}
}

// P7.1: words behind the value, of each kind, and what is no word there.
func TestBehindTheValue(t *testing.T) {
	for s := range values() {
		for _, rest := range []string{"1", "-1", "null", "true", `""`, "[", "]", "{", "}", ",", ":", "[]", "{}", "?", "\"", "\x00", "\ufeff"} {
			checkRefused(t, s+" "+rest, api.ErrText)
			checkRefused(t, s+"\n"+rest+" 1.5", api.ErrText)
		}
		checkRefused(t, s+" 1.5", api.ErrNumber)
		checkRefused(t, s+" 99999999999999999999 ?", api.ErrNumber)
	}
	checkRefused(t, "\ufeff1", api.ErrText)
	checkRefused(t, "1;", api.ErrText)
	checkRefused(t, "1 // one", api.ErrText)
}

// P7.1: texts that end too soon: each beginning of some texts, also where spare room behind it has the rest (rule 8).
func TestTextsThatEndTooSoon(t *testing.T) {
	for _, s := range []string{`{"a":[1,true,null,{"b":"c","d":[]}],"e":-12,"":{}}`, `[[[]],{"a":{}},"x\n\u00e4",false]`, ` { "k" : [ "v" , 7 ] } `, "[9223372036854775807]", `"long text"`, "false"} {
		room := []byte(s)
		for size := range len(s) {
			got, e := jparse.Parse(room[:size])
			want := wantedError([]byte(s[:size]))
			if e != want || e != api.OK && !reflect.DeepEqual(got, api.Json{}) {
				t.Fatalf("Parse(%q) with %q behind it = %v, %d, not %d", s[:size], s[size:], got, int(e), int(want))
			}
			if last := len(strings.TrimRight(s, " ")); (size < last) != (e == api.ErrText) {
				t.Errorf("Parse(%q) = %d", s[:size], int(e))
			}
			checkWanted(t, s[:size])
		}
		checkWanted(t, s)
	}
}

// P7.1: what Take refuses, and a word that could not stand there, either ahead of the other: what is wrong first.
func TestWhatIsWrongFirst(t *testing.T) {
	refused := map[string]api.Errno{"1.5": api.ErrNumber, "2e3": api.ErrNumber, "9223372036854775808": api.ErrNumber, "-9223372036854775809": api.ErrNumber, "?": api.ErrText, "01": api.ErrText, "tru": api.ErrText, `"\ud800"`: api.ErrText, "'a'": api.ErrText, "\xff": api.ErrText, `"`: api.ErrText}
	for s, e := range refused {
		for _, ahead := range []string{"", "[", "[1", "[1,", "{", `{"a"`, `{"a":`, `{"a":1`, `{"a":1,`, "1", "[]", "[[", `[{"a":[`, strings.Repeat("[", 32)} {
			// Nothing is wrong ahead of it, so that it tells, wherever it stands.
			for _, rest := range []string{"", " ]", " ?", " 1.5", " ,", " }", ` "a"`} {
				if s != `"` || rest != ` "a"` {
					checkRefused(t, ahead+" "+s+rest, e)
				}
			}
		}
		for _, ahead := range []string{"]", "[1 2", "[,", "{1", `{"a" 1`, `{"a":1 "b"`, "1 2", "[1,]", "}", ":", "[}", `{"a":}`} {
			checkRefused(t, ahead+" "+s, api.ErrText)
		}
		checkRefused(t, `{"a":1,"a" `+s, api.ErrTwice)
		checkRefused(t, strings.Repeat("[", 33)+s, api.ErrDeep)
	}
}

// P7.1, in its own words, of all texts of up to ten words of some kinds, each ended by its first word that is wrong.
func TestAllShortTexts(t *testing.T) {
	pieces := []string{"{", "}", "[", "]", ":", ",", "1", `"a"`, `"b"`}
	told := map[api.Errno]int{}
	var grow func(s string, left int)
	grow = func(s string, left int) {
		e := checkWanted(t, s)
		told[e]++
		// What is wrong is wrong whatever follows, so that no more need be laid behind it; what ends too soon goes on.
		if left == 0 || e != api.OK && wantedError([]byte(s+" ?")) == wantedError([]byte(s+" 1.5")) {
			return
		}
		for _, piece := range pieces {
			grow(s+piece+" ", left-1)
		}
	}
	grow("", 10)
	if told[api.OK] < 1000 || told[api.ErrText] < 100000 || told[api.ErrTwice] < 200 {
		t.Errorf("too few of a kind: %v", told)
	}
}

// P7.1, in its own words, of words laid together that hang on no rule.
func TestAnyWords(t *testing.T) {
	some := random(7)
	pieces := []string{"{", "}", "[", "]", ":", ",", "[]", "{}", "true", "null", "-3", "12", `"a"`, `"b"`, `"\u0061"`, `""`, "1.5", "?", "truex", `{"a":1`, `,"b":2`, `,"a":`, "[1,", ",2]", "}}", " ", "\n"}
	for range 60000 {
		var s strings.Builder
		for range 1 + some(10) {
			s.WriteString(pieces[some(len(pieces))] + " "[some(2):])
		}
		checkWanted(t, s.String())
	}
}

// anyTree is a tree that hangs on no rule, in so many others at most, and a text of it.
func anyTree(some func(int) int, left int) (api.Json, string) {
	white := func() string { return strings.Repeat(" \t\r\n"[some(4):][:1], some(5)/3) }
	texts := []string{"", "a", "b", "c", "ä€😀", "\n\"\\", "\x00", "a b"}
	switch kind := some(10); {
	case left > 0 && kind < 6:
		j := api.Json{Kind: api.JList + kind%2}
		var s []string
		for range some(5) {
			item, itemText := anyTree(some, left-1)
			key := texts[some(len(texts))]
			switch {
			case j.Kind == api.JList:
				s = append(s, white()+itemText+white())
			case slices.Contains(j.Keys, key):
				continue
			default:
				j.Keys = append(j.Keys, key)
				s = append(s, white()+string(jlex.Quote(nil, key))+white()+":"+white()+itemText+white())
			}
			j.Items = append(j.Items, item)
		}
		if j.Kind == api.JObj {
			return j, "{" + white() + strings.Join(s, ",") + "}"
		}
		return j, "[" + white() + strings.Join(s, ",") + "]"
	case kind < 7:
		s := texts[some(len(texts))]
		return text(s), string(jlex.Quote(nil, s))
	case kind < 8:
		n := int64(some(math.MaxInt)) >> some(64)
		return number(-n), fmt.Sprint(-n)
	case kind < 9:
		return truth(left%2 == 0), fmt.Sprint(left%2 == 0)
	}
	return null(), "null"
}

// P7.1, P7.3, of trees that hang on no rule: their texts have them, and with a byte dropped, doubled or changed what the chapter says.
func TestAnyTrees(t *testing.T) {
	some := random(17)
	told := map[api.Errno]int{}
	for range 8000 {
		j, s := anyTree(some, 1+some(6))
		if len(s) > 2000 {
			continue
		}
		checkTree(t, s, j)
		checkMade(t, s)
		told[checkWanted(t, s)]++
		at := some(len(s))
		turns := "{}[]:,\"1a-. t"
		for _, other := range []string{s[:at] + s[at+1:], s[:at] + s[at:at+1] + s[at:], s[:at] + string(turns[some(len(turns))]) + s[at+1:], s[:at]} {
			told[checkWanted(t, other)]++
		}
	}
	if told[api.OK] < 5000 || told[api.ErrText] < 5000 || told[api.ErrTwice] < 20 || told[api.ErrNumber] < 100 {
		t.Errorf("too few of a kind: %v", told)
	}
}

// Rule 4: the tree is memory of its own, its texts and keys too, and no two of its lists share any.
func TestTreeIsNotTheBytes(t *testing.T) {
	b := []byte(`{"key":["text",[1],[2]],"other":[[3],"more"]}`)
	s := string(b)
	j, _ := jparse.Parse(b)
	again, _ := jparse.Parse(b)
	clear(b)
	if want := wantedTree(t, []byte(s)); !same(j, want) || !same(again, want) {
		t.Fatalf("with its bytes gone the tree is %v", j)
	}
	for _, items := range [][]api.Json{j.Items, j.Items[0].Items, j.Items[0].Items[1].Items, j.Items[0].Items[2].Items, j.Items[1].Items, j.Items[1].Items[0].Items} {
		_ = append(items, text("behind"), text("behind"), text("behind"))
	}
	_ = append(j.Keys, "behind", "behind")
	if want := wantedTree(t, []byte(s)); !same(j, want) || !same(again, want) {
		t.Fatalf("with more behind its lists the tree is %v", j)
	}
	j.Items[0].Items[1].Items[0] = null()
	j.Keys[0] = "x"
	if !same(again, wantedTree(t, []byte(s))) {
		t.Fatalf("with another one changed the tree is %v", again)
	}
}

// unlike is trees of which no two are alike; also such as no text has.
func unlike() []api.Json {
	return []api.Json{
		{}, null(), truth(false), truth(true), number(0), number(1), number(-1), number(math.MaxInt64), number(math.MinInt64), text(""), text("a"), text("b"), text("A"), text("a\x00"), list(), object(""),
		list(null()), list(null(), null()), list(number(0)), list(number(1)), list(text("")), list(list()), list(object("")), list(number(1), number(2)), list(number(2), number(1)), list(number(1), number(2), number(2)),
		object("a", number(1)), object("b", number(1)), object("-", number(1)), object("a", number(2)), object("a b", number(1), number(2)), object("b a", number(2), number(1)), object("b a", number(1), number(2)), object("a b", number(2), number(1)), object("a b", number(1), number(1)), object("a a", number(1), number(2)),
		object("a", object("a", number(1))), object("a", list(number(1))), list(object("a", number(1))),
		{Kind: 7}, {Kind: -1}, {Kind: math.MaxInt}, {Kind: api.JNull, Int: 1}, {Kind: api.JNull, Text: "a"}, {Kind: api.JNull, Items: []api.Json{null()}}, {Kind: api.JNull, Keys: []string{"a"}}, {Kind: api.JNull, Keys: []string{""}}, {Kind: api.JBool, Int: 2}, {Kind: api.JInt, Text: "a"}, {Kind: api.JText, Int: 1}, {Kind: api.JText, Text: "a", Int: 1}, {Kind: api.JText, Text: "\xff"},
		{Kind: api.JList, Text: "a"}, {Kind: api.JList, Int: 1}, {Kind: api.JList, Keys: []string{"a"}}, {Kind: api.JList, Keys: []string{"a"}, Items: []api.Json{number(1)}}, {Kind: api.JObj, Text: "a"}, {Kind: api.JObj, Int: 1}, {Kind: api.JObj, Keys: []string{"a"}}, {Kind: api.JObj, Items: []api.Json{number(1)}}, {Kind: api.JObj, Keys: []string{"a", "b"}, Items: []api.Json{number(1)}}, {Kind: api.JObj, Keys: []string{"a"}, Items: []api.Json{number(1), number(2)}},
	}
}

// P7.2, Same: trees that differ in one thing alone, alone and deep within others, from either side.
func TestSame(t *testing.T) {
	for i, a := range unlike() {
		for k, b := range unlike() {
			for _, deep := range []int{0, 1, 2, 31, 33} {
				for lists := 0; lists <= deep; lists += max(deep, 1) {
					x, y := within(a, lists, deep-lists), within(b, lists, deep-lists)
					if jparse.Same(x, y) != (i == k) {
						t.Fatalf("Same(%v, %v) in %d is %v", a, b, deep, i != k)
					}
				}
			}
			one := number(7)
			for _, pair := range [][2]api.Json{{list(one, a, one), list(one, b, one)}, {list(a, one), list(b, one)}, {object("x y z", one, one, a), object("x y z", one, one, b)}, {object("x y", list(list(a)), one), object("x y", list(list(b)), one)}} {
				if jparse.Same(pair[0], pair[1]) != (i == k) {
					t.Fatalf("Same(%v, %v) is %v", pair[0], pair[1], i != k)
				}
			}
		}
	}
}

// P7.2, Same: one key, or one item more or less, deep within, tells; in which order they stand too.
func TestSameOfParts(t *testing.T) {
	s := `{"a":[1,{"b":[true,"x",{"c":null,"d":-5}]}],"e":{"f":{}}}`
	j, _ := jparse.Parse([]byte(s))
	for _, row := range [][2]string{{"1", "2"}, {"true", "false"}, {`"x"`, `"y"`}, {`"x"`, "null"}, {"null", "0"}, {`"c"`, `"C"`}, {"-5", "5"}, {`"f"`, `""`}, {"{}", "[]"}, {"{}", "null"}, {"{}", `{"":0}`}, {`"c":null,`, ""}, {`"c":null,"d":-5`, `"d":-5,"c":null`}, {`true,"x"`, `"x",true`}, {"true,", "true,true,"}, {"-5}", "-5},0"}} {
		other, e := jparse.Parse([]byte(strings.Replace(s, row[0], row[1], 1)))
		if e != api.OK || jparse.Same(j, other) || jparse.Same(other, j) {
			t.Errorf("with %s for %s it is the same: %v, %d", row[1], row[0], other, int(e))
		}
	}
	again, _ := jparse.Parse([]byte(" " + strings.ReplaceAll(s, ":", " :\n")))
	if !jparse.Same(j, again) || !jparse.Same(again, j) || !jparse.Same(j, j) {
		t.Errorf("%v and %v are not the same", j, again)
	}
}

// P7.2, Same, by rule 3: a list without an element is the same nil and empty, and whatever room it has.
func TestSameOfEmptyLists(t *testing.T) {
	for _, kind := range []int{api.JNull, api.JInt, api.JText, api.JList, api.JObj} {
		a := api.Json{Kind: kind}
		b := api.Json{Kind: kind, Items: []api.Json{}, Keys: []string{}}
		c := api.Json{Kind: kind, Items: []api.Json{number(1)}[:0], Keys: []string{"a"}[:0]}
		for _, x := range []api.Json{a, b, c} {
			for _, y := range []api.Json{a, b, c} {
				if !jparse.Same(x, y) || !jparse.Same(list(x), list(y)) {
					t.Errorf("Same(%#v, %#v) is false", x, y)
				}
			}
		}
	}
	if !jparse.Same(list([]api.Json{number(1), number(2)}[:1]...), list([]api.Json{number(1), number(3)}[:1]...)) {
		t.Errorf("what lies behind a list is held against another")
	}
}

// P7.2, Same, of trees that hang on no rule, against the library.
func TestSameOfAnyTrees(t *testing.T) {
	some := random(29)
	alike := 0
	for range 40000 {
		a, s := anyTree(some, some(3))
		b, _ := anyTree(some, some(3))
		if jparse.Same(a, b) != same(a, b) {
			t.Fatalf("Same(%v, %v) is %v", a, b, jparse.Same(a, b))
		}
		if same(a, b) {
			alike++
		}
		if parsed, e := jparse.Parse([]byte(s)); e != api.OK || !jparse.Same(parsed, a) {
			t.Fatalf("Parse(%q) is not the same as %v", s, a)
		}
	}
	if alike < 500 {
		t.Errorf("just %d were alike", alike)
	}
}

// checkGet holds Get against what is wanted.
func checkGet(t *testing.T, j api.Json, key string, want api.Json, ok bool) {
	t.Helper()
	got, has := jparse.Get(j, key)
	if !same(got, want) || has != ok {
		t.Errorf("Get(%v, %q) = %v, %v, not %v, %v", j, key, got, has, want, ok)
	}
}

// P7.2, Get: of the first key, of later ones, of none, of one that stands elsewhere.
func TestGet(t *testing.T) {
	j, _ := jparse.Parse([]byte(`{"a":1,"b":{"c":[2]},"":null,"ä":"x","last":{}}`))
	checkGet(t, j, "a", number(1), true)
	checkGet(t, j, "b", object("c", list(number(2))), true)
	checkGet(t, j, "", null(), true)
	checkGet(t, j, "ä", text("x"), true)
	checkGet(t, j, "last", object(""), true)
	for _, key := range []string{"c", "A", "a ", "aa", "x", "1", "\x00", "\xff", "las", "lastt", strings.Repeat("a", 30000)} {
		checkGet(t, j, key, api.Json{}, false)
	}
	checkGet(t, j.Items[1], "c", list(number(2)), true)
	checkGet(t, object(""), "", api.Json{}, false)
	checkGet(t, object(""), "a", api.Json{}, false)
	many := api.Json{Kind: api.JObj}
	for n := range 1000 {
		many.Keys = append(many.Keys, fmt.Sprint(n))
		many.Items = append(many.Items, number(int64(n)))
	}
	for n := range 1000 {
		checkGet(t, many, fmt.Sprint(n), number(int64(n)), true)
	}
	checkGet(t, many, "1000", api.Json{}, false)
	checkGet(t, many, "-1", api.Json{}, false)
}

// P7.2, Get: of several items of a key the first one; of no object none, though it has keys and items.
func TestGetOfWhatNoTextHas(t *testing.T) {
	twice := object("a b a b", number(1), number(2), number(3), number(4))
	checkGet(t, twice, "a", number(1), true)
	checkGet(t, twice, "b", number(2), true)
	for kind := -3; kind < 12; kind++ {
		j := api.Json{Kind: kind, Int: 1, Text: "a", Keys: []string{"a", ""}, Items: []api.Json{number(5), number(6)}}
		isObject := kind == api.JObj
		want, empty := api.Json{}, api.Json{}
		if isObject {
			want, empty = number(5), number(6)
		}
		checkGet(t, j, "a", want, isObject)
		checkGet(t, j, "", empty, isObject)
		checkGet(t, j, "b", api.Json{}, false)
	}
	for _, x := range []api.Json{{}, null(), truth(true), number(1), text("a"), list(), list(object("a", number(1)))} {
		checkGet(t, x, "a", api.Json{}, false)
		checkGet(t, x, "", api.Json{}, false)
	}
	// As many keys as items it may not have, but it is asked all the same.
	more := api.Json{Kind: api.JObj, Keys: []string{"a", "b", "c", "a"}, Items: []api.Json{number(1), number(2), number(3), number(4)}[:2]}
	checkGet(t, more, "a", number(1), true)
	checkGet(t, more, "b", number(2), true)
	checkGet(t, more, "c", api.Json{}, false)
	checkGet(t, api.Json{Kind: api.JObj, Keys: []string{"a"}}, "a", api.Json{}, false)
	less := api.Json{Kind: api.JObj, Keys: []string{"a", "b"}[:1], Items: []api.Json{number(1), number(2)}}
	checkGet(t, less, "a", number(1), true)
	checkGet(t, less, "b", api.Json{}, false)
	checkGet(t, less, "", api.Json{}, false)
}

// P7.2, Deep: of what is no list and no object, of empty ones, and of items of unlike depths.
func TestDeep(t *testing.T) {
	for s, want := range map[string]int{
		"null": 0, "true": 0, "false": 0, "0": 0, "-7": 0, `""`: 0, `"[[]]"`: 0, "[]": 1, "{}": 1, "[1]": 1, `{"a":1}`: 1, "[1,2,3]": 1, "[[]]": 2, "[{}]": 2, `{"a":[]}`: 2, `{"a":{}}`: 2,
		"[[],[]]": 2, "[[[]],1,[]]": 3, "[1,[],[[]]]": 3, "[[],[[[]]],[[]]]": 4, `{"a":1,"b":[{"c":[]}],"d":{}}`: 4, `{"a":[[[1]]],"b":[]}`: 4, `{"a": [1, true]}`: 2, `[[1],{"a":[2]},3]`: 3,
		strings.Repeat("[", 32) + strings.Repeat("]", 32): 32, "[" + strings.Repeat("[],", 5000) + "[]]": 2,
	} {
		j, e := jparse.Parse([]byte(s))
		if got := jparse.Deep(j); got != want || e != api.OK {
			t.Errorf("Deep of %.40q is %d, not %d (%d)", s, got, want, int(e))
		}
	}
	for kind := -3; kind < 12; kind++ {
		want := 0
		if kind == api.JList || kind == api.JObj {
			want = 2
		}
		j := api.Json{Kind: kind, Int: 9, Text: "[[[", Keys: []string{"a", "b", "c"}, Items: []api.Json{list()}}
		if got := jparse.Deep(j); got != want {
			t.Errorf("Deep of kind %d is %d, not %d", kind, got, want)
		}
		// Items of what is no list and no object do not count, wherever it stands.
		if got := jparse.Deep(list(j)); got != want+1 {
			t.Errorf("Deep of a list of kind %d is %d, not %d", kind, got, want+1)
		}
	}
	if got := jparse.Deep(api.Json{Kind: api.JList, Items: []api.Json{list(), list(list())}[:1]}); got != 2 {
		t.Errorf("what lies behind a list is counted: %d", got)
	}
	some := random(37)
	for range 5000 {
		if j, _ := anyTree(some, some(9)); jparse.Deep(j) != deepOf(j) {
			t.Fatalf("Deep(%v) = %d, not %d", j, jparse.Deep(j), deepOf(j))
		}
	}
}

// P7.2, rule 1: trees that are as deep as the bound lets them be.
func TestDeepTrees(t *testing.T) {
	const most = 65535
	a, b, c := within(number(1), most, 0), within(number(1), most, 0), within(number(2), most, 0)
	if jparse.Deep(a) != most || !jparse.Same(a, b) || jparse.Same(a, c) {
		t.Errorf("it is %d deep, %v, %v", jparse.Deep(a), jparse.Same(a, b), jparse.Same(a, c))
	}
	a = within(a, 0, 1)
	if item, ok := jparse.Get(a, "a"); !ok || !jparse.Same(item, b) || jparse.Deep(a) != most+1 {
		t.Errorf("its item is none: %v", ok)
	}
}

// Rule 4: Same, Get and Deep change nothing.
func TestTreesStayAsTheyAre(t *testing.T) {
	for i, j := range unlike() {
		was := unlike()[i]
		jparse.Same(j, object("a", j))
		jparse.Same(j, was)
		jparse.Get(j, "a")
		jparse.Deep(j)
		if !reflect.DeepEqual(j, was) {
			t.Errorf("%v was %v", j, was)
		}
	}
}
