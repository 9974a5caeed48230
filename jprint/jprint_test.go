package jprint_test

import (
	"bytes"
	"encoding/json"
	"fmt"
	"math"
	"math/big"
	"reflect"
	"slices"
	"strings"
	"testing"
	"unicode/utf8"

	"avocet/api"
	"avocet/jparse"
	"avocet/jprint"
)

// fits tells whether a tree has just what P8.1 says of its kind, its items aside.
func fits(j api.Json) bool {
	var has api.Json
	switch j.Kind {
	case api.JNull:
	case api.JBool:
		has.Int = j.Int & 1
	case api.JInt:
		has.Int = j.Int
	case api.JText:
		has.Text = j.Text
	case api.JList:
		has.Items = j.Items
	case api.JObj:
		has.Items, has.Keys = j.Items, j.Keys
		if len(j.Items) != len(j.Keys) {
			return false
		}
	default:
		return false
	}
	return j.Int == has.Int && j.Text == has.Text && len(j.Items) == len(has.Items) && len(j.Keys) == len(has.Keys)
}

// may tells whether a tree is right by the words of P8.1, row by row: at each step what stands one deeper.
func may(j api.Json) bool {
	row := []api.Json{j}
	for deep := 0; len(row) > 0; deep++ {
		var below []api.Json
		for _, j := range row {
			open := j.Kind == api.JList || j.Kind == api.JObj
			texts := append(slices.Clone(j.Keys), j.Text)
			once := slices.Compact(slices.Sorted(slices.Values(j.Keys)))
			if !fits(j) || open && deep == 32 || slices.ContainsFunc(texts, notText) || len(once) < len(j.Keys) {
				return false
			}
			below = append(below, j.Items...)
		}
		row = below
	}
	return true
}

func notText(s string) bool { return !utf8.ValidString(s) }

// escapes is what P6.3 says of bytes that are not put as they are.
func escapes() *strings.Replacer {
	pairs := []string{`"`, `\"`, `\`, `\\`, "\b", `\b`, "\f", `\f`, "\n", `\n`, "\r", `\r`, "\t", `\t`}
	for x := range byte(32) {
		if !slices.Contains(pairs, string(x)) {
			pairs = append(pairs, string(x), fmt.Sprintf(`\u%04x`, x))
		}
	}
	return strings.NewReplacer(pairs...)
}

var escape = escapes()

func quoted(s string) string { return `"` + escape.Replace(s) + `"` }

// line is the text of a tree that may be, by the words of P8.3.
func line(j api.Json) string {
	var parts []string
	switch j.Kind {
	case api.JBool:
		return fmt.Sprint(j.Int == 1)
	case api.JInt:
		return big.NewInt(j.Int).String()
	case api.JText:
		return quoted(j.Text)
	case api.JList:
		for _, item := range j.Items {
			parts = append(parts, line(item))
		}
		return "[" + strings.Join(parts, ",") + "]"
	case api.JObj:
		for place, item := range j.Items {
			parts = append(parts, quoted(j.Keys[place])+":"+line(item))
		}
		return "{" + strings.Join(parts, ",") + "}"
	}
	return "null"
}

func null() api.Json { return api.Json{Kind: api.JNull} }

func truth(n int64) api.Json { return api.Json{Kind: api.JBool, Int: n} }

func number(n int64) api.Json { return api.Json{Kind: api.JInt, Int: n} }

func text(s string) api.Json { return api.Json{Kind: api.JText, Text: s} }

func list(items ...api.Json) api.Json { return api.Json{Kind: api.JList, Items: items} }

// object is an object of those keys, each ended by a |.
func object(keys string, items ...api.Json) api.Json {
	j := api.Json{Kind: api.JObj, Items: items, Keys: strings.Split(keys, "|")}
	j.Keys = j.Keys[:len(j.Keys)-1]
	return j
}

// within is a tree in others: from the innermost on lists ([) and objects ({).
func within(j api.Json, form string) api.Json {
	for place := len(form) - 1; place >= 0; place-- {
		if form[place] == '[' {
			j = list(j)
		} else {
			j = object("a|", j)
		}
	}
	return j
}

// plain is a tree with its lists without elements nil (rule 3), and without what lies behind them.
func plain(j api.Json) api.Json {
	var items []api.Json
	for _, item := range j.Items {
		items = append(items, plain(item))
	}
	j.Items = items
	if len(j.Keys) == 0 {
		j.Keys = nil
	}
	return j
}

// said tells a tree in a line that is not too long.
func said(j api.Json) string {
	return fmt.Sprintf("%.300s", fmt.Sprint(j))
}

// random tells numbers that hang on no rule; the same each time.
func random(seed uint64) func(below int) int {
	return func(below int) int {
		seed += 0x9e3779b97f4a7c15
		x := seed
		x = (x ^ x>>30) * 0xbf58476d1ce4e5b9
		x = (x ^ x>>27) * 0x94d049bb133111eb
		return int((x ^ x>>31) % uint64(below))
	}
}

// checkPrinted holds Right and Print against a text that is wanted, and what is parsed of it against the tree.
func checkPrinted(t *testing.T, j api.Json, want string) {
	t.Helper()
	if !jprint.Right(j) {
		t.Fatalf("%s is not right", said(j))
	}
	got, e := jprint.Print(j)
	if e != api.OK || string(got) != want {
		t.Fatalf("Print(%s) = %.80q, %d, not %.80q", said(j), got, int(e), want)
	}
	again, e := jparse.Parse(got)
	if e != api.OK || !reflect.DeepEqual(plain(again), plain(j)) || !jparse.Same(again, j) {
		t.Fatalf("%.80q is parsed as %s, %d, not %s", got, said(again), int(e), said(j))
	}
	if twice, e := jprint.Print(again); e != api.OK || !bytes.Equal(twice, got) {
		t.Fatalf("%.80q is parsed and printed as %.80q, %d", got, twice, int(e))
	}
}

// checkRefused holds Print's refusal against the one that is wanted.
func checkRefused(t *testing.T, j api.Json, want api.Errno) {
	t.Helper()
	if got := jprint.Right(j); got != (want != api.ErrArg) {
		t.Fatalf("Right(%s) is %v", said(j), got)
	}
	if got, e := jprint.Print(j); e != want || len(got) > 0 {
		t.Fatalf("Print(%s) = %.80q, %d, not nothing, %d", said(j), got, int(e), int(want))
	}
}

// checkWanted holds Right and Print of a tree against the chapter's words, and tells whether it may be.
func checkWanted(t *testing.T, j api.Json) bool {
	t.Helper()
	if !may(j) {
		checkRefused(t, j, api.ErrArg)
		return false
	}
	if s := line(j); len(s) > 20000 {
		checkRefused(t, j, api.ErrBig)
	} else {
		checkPrinted(t, j, s)
	}
	return true
}

// checkEverywhere holds a tree that is at most 3 deep against the chapter's words: alone, and at each place of lists and objects.
func checkEverywhere(t *testing.T, j api.Json) {
	t.Helper()
	one, two := number(1), text("2")
	for _, x := range []api.Json{
		j, list(j), list(j, one, two), list(one, j, two), list(one, two, j), list(j, j), list(list(), j), list(object(""), j),
		object("k|", j), object("|", j), object("k|l|m|", j, one, two), object("k|l|m|", one, j, two), object("k|l|m|", one, two, j), object("b|a|", j, j),
		list(list(j), object("a|", j)), object("a|b|", object("a|", j), list(j)),
		within(j, "[[[{{{[{[{"), within(j, strings.Repeat("[", 29)), within(j, strings.Repeat("{", 29)), within(list(one, j), strings.Repeat("[{", 14)), within(object("a|b|", one, j), strings.Repeat("{[", 14)),
	} {
		if got := checkWanted(t, x); got != may(j) {
			t.Fatalf("%s with %s is right: %v", said(x), said(j), got)
		}
	}
}

// given is trees of each kind, with their texts.
func given() map[string]api.Json {
	return map[string]api.Json{
		"null": null(), "true": truth(1), "false": truth(0),
		"0": number(0), "1": number(1), "-1": number(-1), "10": number(10), "-907": number(-907), "9223372036854775807": number(math.MaxInt64), "-9223372036854775808": number(math.MinInt64),
		`""`: text(""), `" "`: text(" "), `"a"`: text("a"), `"null"`: text("null"), `"a\"b\\c/d"`: text(`a"b\c/d`), `"\b\f\n\r\t\u0000\u001f"`: text("\b\f\n\r\t\x00\x1f"), "\"ä€😀\x7f\"": text("ä€😀\x7f"), `"[1, 2]"`: text("[1, 2]"), `"\\u00e4"`: text(`\u00e4`),
		"[]": list(), "{}": object(""), "[null]": list(null()), "[1,2,3]": list(number(1), number(2), number(3)), "[[],[[]]]": list(list(), list(list())), "[{},{}]": list(object(""), object("")),
		`{"a":1}`: object("a|", number(1)), `{"":""}`: object("|", text("")), `{"b":1,"a":[true,false],"":{"b":null}}`: object("b|a||", number(1), list(truth(1), truth(0)), object("b|", null())),
		"{\"\\n\":-5,\"ä\\\"\":\"\\\\\"}": object("\n|ä\"|", number(-5), text(`\`)),
		`["a,b",":","]","}"]`:             list(text("a,b"), text(":"), text("]"), text("}")),
	}
}

// P8.3: the chapter's example.
func TestExample(t *testing.T) {
	j := api.Json{Kind: 6, Keys: []string{"a"}, Items: []api.Json{{Kind: 5, Items: []api.Json{{Kind: 3, Int: 1}, {Kind: 2, Int: 1}}}}}
	checkPrinted(t, j, `{"a":[1,true]}`)
	parsed, e := jparse.Parse([]byte(`{"a": [1, true]}`))
	if e != api.OK {
		t.Fatal(e)
	}
	checkPrinted(t, parsed, `{"a":[1,true]}`)
}

// P8.1, P8.3, P8.4: trees of each kind, alone and within others.
func TestEachKind(t *testing.T) {
	for s, j := range given() {
		checkPrinted(t, j, s)
		checkPrinted(t, list(j), "["+s+"]")
		checkPrinted(t, list(j, j, null()), "["+s+","+s+",null]")
		checkPrinted(t, object("k|", j), `{"k":`+s+"}")
		checkPrinted(t, object("z||k|", number(0), j, list(j)), `{"z":0,"":`+s+`,"k":[`+s+"]}")
		checkEverywhere(t, j)
		for other, k := range given() {
			checkPrinted(t, list(j, k), "["+s+","+other+"]")
			checkPrinted(t, object("1|2|", j, k), `{"1":`+s+`,"2":`+other+"}")
		}
	}
}

// P8.1: of each kind, and of numbers that are no kind, all mixtures of what it has and does not have.
func TestWhatAKindHas(t *testing.T) {
	kinds := []int{math.MinInt, -api.JList, -1, 0, 1, 2, 3, 4, 5, 6, 7, 8, 256 + api.JText, 1<<32 + api.JNull, math.MaxInt}
	numbers := []int64{0, 1, -1, 2, 3, 256, 1 << 32, math.MinInt64, math.MinInt64 + 1, math.MaxInt64}
	keys := [][]string{nil, {}, {"a"}, {""}, {"a", ""}, {"a", "b", "c"}, []string{"a", "b"}[:0], {"a", "a"}}
	items := [][]api.Json{nil, {}, {null()}, {text(""), number(0)}, []api.Json{null(), null()}[:0]}
	rights := map[int]int{}
	for _, kind := range kinds {
		for _, n := range numbers {
			for _, s := range []string{"", "a", "\x00", "null"} {
				for k := range len(keys) * len(items) {
					j := api.Json{Kind: kind, Int: n, Text: s, Keys: keys[k%len(keys)], Items: items[k/len(keys)]}
					if checkWanted(t, j) {
						rights[kind]++
					}
					checkWanted(t, list(number(1), j))
					checkWanted(t, object("b|", j))
				}
			}
		}
	}
	// Three of the lists of keys, and three of those of items, are without elements.
	want := map[int]int{api.JNull: 9, api.JBool: 2 * 9, api.JInt: len(numbers) * 9, api.JText: 4 * 9, api.JList: 3 * len(items), api.JObj: 9 + 2 + 1}
	if !reflect.DeepEqual(rights, want) {
		t.Errorf("%v are right, not %v", rights, want)
	}
}

// P8.1: each thing that a kind does not have, alone and at each place of others.
func TestWhatAKindDoesNotHave(t *testing.T) {
	for _, j := range []api.Json{
		{}, {Kind: 7}, {Kind: -1}, {Kind: 0, Text: "a"},
		{Kind: api.JNull, Int: 1}, {Kind: api.JText, Int: 1}, {Kind: api.JText, Text: "a", Int: -1}, {Kind: api.JList, Int: 1}, {Kind: api.JObj, Int: math.MinInt64},
		{Kind: api.JBool, Int: 2}, {Kind: api.JBool, Int: -1}, {Kind: api.JBool, Int: math.MaxInt64},
		{Kind: api.JNull, Text: "a"}, {Kind: api.JBool, Text: "a"}, {Kind: api.JBool, Int: 1, Text: "true"}, {Kind: api.JInt, Text: "0"}, {Kind: api.JList, Text: "a"}, {Kind: api.JObj, Text: "a"},
		{Kind: api.JNull, Items: []api.Json{null()}}, {Kind: api.JBool, Items: []api.Json{null()}}, {Kind: api.JInt, Items: []api.Json{null()}}, {Kind: api.JText, Items: []api.Json{null()}},
		{Kind: api.JNull, Keys: []string{""}}, {Kind: api.JBool, Keys: []string{"a"}}, {Kind: api.JInt, Keys: []string{"a"}}, {Kind: api.JText, Keys: []string{"a"}}, {Kind: api.JList, Keys: []string{"a"}}, {Kind: api.JList, Keys: []string{"a"}, Items: []api.Json{null()}},
		{Kind: api.JNull, Keys: []string{"a"}, Items: []api.Json{null()}},
		{Kind: api.JObj, Keys: []string{"a"}}, {Kind: api.JObj, Items: []api.Json{null()}}, object("a|b|", null()), object("a|", null(), null()), object("a|b|c|", null(), null()), object("a|b|", null(), null(), null()),
	} {
		checkRefused(t, j, api.ErrArg)
		checkEverywhere(t, j)
	}
}

// P8.1: a key twice, wherever it stands; the same key in an object within, or beside, is another one.
func TestKeysTwice(t *testing.T) {
	one := number(1)
	for _, keys := range []string{"a|a|", "||", "a|b|a|", "b|a|a|", "a|a|b|", "|a||", "ä|b|ä|", "a|b|c|d|e|f|g|a|", "a|b|a|b|", "a|a|a|", "\x00|\x00|", "\n|a|\n|"} {
		j := object(keys)
		for range j.Keys {
			j.Items = append(j.Items, one)
		}
		checkEverywhere(t, j)
		checkRefused(t, j, api.ErrArg)
		j.Items[0], j.Items[len(j.Items)-1] = object("x|", one), list(one)
		checkRefused(t, j, api.ErrArg)
	}
	for _, keys := range []string{"a|A|", "a||", "a|aa|", "a|a |", "a|a\x00|", "|\x00|", "ä|a\u0308|", "ä|Ä|", "1|01|", "\n|\\n|", "a|b|ab|ba|"} {
		j := object(keys)
		for range j.Keys {
			j.Items = append(j.Items, one)
		}
		checkPrinted(t, j, line(j))
	}
	for _, j := range []api.Json{
		object("a|", object("a|", object("a|", one))), object("a|b|", object("a|b|", one, one), object("b|a|", one, one)), list(object("a|", one), object("a|", one)), object("a|", list(object("a|", one), object("a|", one))), object("|", object("|", one)), object("a|b|", object("b|", one), one),
	} {
		checkPrinted(t, j, line(j))
	}
	checkRefused(t, object("a|b|", object("c|c|", one, one), one), api.ErrArg)
	checkRefused(t, object("a|b|", object("b|c|b|", one, one, one), one), api.ErrArg)
}

// P8.1: many keys, one of them twice, or none; told soon.
func TestManyKeys(t *testing.T) {
	const many = 200000
	j := api.Json{Kind: api.JObj, Items: make([]api.Json, many)}
	for n := range many {
		j.Items[n] = null()
		j.Keys = append(j.Keys, fmt.Sprint(n))
	}
	checkRefused(t, j, api.ErrBig)
	for _, pair := range [][2]int{{0, many - 1}, {many - 1, many - 2}, {0, 1}, {many / 2, many - 1}, {12345, 67890}} {
		was := j.Keys[pair[0]]
		j.Keys[pair[0]] = j.Keys[pair[1]]
		checkRefused(t, j, api.ErrArg)
		j.Keys[pair[0]] = was
	}
	j.Items, j.Keys = j.Items[:1500], j.Keys[:1500]
	checkPrinted(t, j, line(j))
	j.Keys[1499] = "0"
	checkRefused(t, j, api.ErrArg)
}

// P8.1: texts and keys that are no characters.
func TestNoCharacters(t *testing.T) {
	for _, s := range []string{"\xff", "\x80", "\xc0\x80", "\xc1\xbf", "\xe0\x80\x80", "\xe0\x9f\xbf", "\xed\xa0\x80", "\xed\xbf\xbf", "\xed\xa0\xbd\xed\xb8\x80", "\xf0\x80\x80\x80", "\xf4\x90\x80\x80", "\xf5\x80\x80\x80", "\xe2\x82", "\xe2", "\xf0\x9f\x98", "\xc3", "\xe4"} {
		for _, ahead := range []string{"", "a", "ä", "\n", "😀"} {
			for _, behind := range []string{"", "a", "ä", `"`, "€"} {
				checkRefused(t, text(ahead+s+behind), api.ErrArg)
				checkRefused(t, object(ahead+s+behind+"|", null()), api.ErrArg)
			}
		}
		one := number(1)
		for _, j := range []api.Json{text(s), object(s+"|", one), object("a|"+s+"|", one, one), object(s+"|a|", one, one), object("a|"+s+"|b|", one, one, one), object("a|", text(s))} {
			checkEverywhere(t, j)
			checkRefused(t, within(j, strings.Repeat("[{", 15)), api.ErrArg)
		}
	}
	for _, c := range []rune{0, 31, 32, 34, 92, 127, 128, 2047, 2048, 55295, 57344, 65533, 65535, 65536, 1114111} {
		checkPrinted(t, text(string(c)), quoted(string(c)))
		checkPrinted(t, object(string(c)+"|", text(string(c)+string(c))), line(object(string(c)+"|", text(string(c)+string(c)))))
	}
}

// P8.1, P8.3: texts and keys of each one, and each two bytes.
func TestShortTexts(t *testing.T) {
	for n := range 256 + 65536 {
		s := string([]byte{byte(n)})
		if n >= 256 {
			s = string([]byte{byte(n >> 8), byte(n)})
		}
		if got := checkWanted(t, text(s)); got != utf8.ValidString(s) {
			t.Fatalf("Right of %q is %v", s, got)
		}
		checkWanted(t, api.Json{Kind: api.JObj, Keys: []string{s, "key"}, Items: []api.Json{null(), truth(0)}})
	}
}

// P8.3: each byte and some characters, quoted in texts and in keys.
func TestQuoted(t *testing.T) {
	want := map[byte]string{'"': `\"`, '\\': `\\`, 8: `\b`, 12: `\f`, 10: `\n`, 13: `\r`, 9: `\t`}
	for x := range byte(128) {
		s, ok := want[x]
		if !ok && x < 32 {
			s = fmt.Sprintf(`\u00%x%x`, x/16, x%16)
		} else if !ok {
			s = string(x)
		}
		c := string(x)
		checkPrinted(t, text(c), `"`+s+`"`)
		checkPrinted(t, text("a"+c+c+"ä"), `"a`+s+s+`ä"`)
		checkPrinted(t, api.Json{Kind: api.JObj, Keys: []string{c, c + "€"}, Items: []api.Json{text(c), null()}}, `{"`+s+`":"`+s+`","`+s+`€":null}`)
	}
	checkPrinted(t, text("/</>&'\u2028\u2029\ufeff\ufffd"), "\"/</>&'\u2028\u2029\ufeff\ufffd\"")
	checkPrinted(t, list(text("é€😀\U0010ffff")), "[\"é€😀\U0010ffff\"]")
	checkPrinted(t, text(`","`), `"\",\""`)
}

// P8.1: just as deep as may be, and one more, of lists and objects in any order.
func TestDepth(t *testing.T) {
	some := random(8)
	forms := []string{strings.Repeat("[", 33), strings.Repeat("{", 33), strings.Repeat("[{", 17)[:33], strings.Repeat("{[", 17)[:33]}
	for range 200 {
		form := make([]byte, 33)
		for place := range form {
			form[place] = "[{"[some(2)]
		}
		forms = append(forms, string(form))
	}
	for _, form := range forms {
		for _, leaf := range []api.Json{null(), truth(1), number(-1), text("["), list(), object("")} {
			opens := len(leaf.Text) == 0 && leaf.Kind >= api.JList
			for deep := 28; deep <= 33; deep++ {
				j := within(leaf, form[:deep])
				ok := deep < 32 || deep == 32 && !opens
				if checkWanted(t, j) != ok {
					t.Fatalf("%s, within %d, is right: %v", said(leaf), deep, !ok)
				}
				// Beside it stands what is less deep, ahead or behind.
				checkWanted(t, list(number(1), j))
				checkWanted(t, list(j, list()))
				checkWanted(t, list(list(), within(null(), form[:30]), j, list(list())))
				checkWanted(t, object("a|b|c|", null(), j, list()))
			}
		}
	}
	checkPrinted(t, within(number(1), strings.Repeat("[", 32)), strings.Repeat("[", 32)+"1"+strings.Repeat("]", 32))
	checkRefused(t, within(number(1), strings.Repeat("[", 33)), api.ErrArg)
	checkPrinted(t, within(list(), strings.Repeat("{", 31)), strings.Repeat(`{"a":`, 31)+"[]"+strings.Repeat("}", 31))
	checkRefused(t, within(object(""), strings.Repeat("{", 32)), api.ErrArg)
}

// P8.1, rule 1: trees as deep as the bound lets them be, and ones that stand in themselves.
func TestDeepTrees(t *testing.T) {
	for _, form := range []string{"[", "{"} {
		j := within(null(), strings.Repeat(form, 65535))
		checkRefused(t, j, api.ErrArg)
		checkRefused(t, list(null(), j), api.ErrArg)
	}
	items := make([]api.Json, 3)
	items[0], items[1], items[2] = null(), api.Json{Kind: api.JList, Items: items}, api.Json{Kind: api.JObj, Items: items, Keys: []string{"a", "b", "c"}}
	for _, j := range items[1:] {
		got, e := jprint.Print(j)
		if e != api.ErrArg || len(got) > 0 || jprint.Right(j) {
			t.Errorf("a tree in itself is %.80q, %d", got, int(e))
		}
	}
}

// checkNumber holds Number behind bytes, behind none, and as a tree against the digits of the library's numbers without a range.
func checkNumber(t *testing.T, n int64) {
	t.Helper()
	want := big.NewInt(n).String()
	for _, ahead := range []string{"", "a", "-", "0", "12", "\xff\x00"} {
		if got := jprint.Number([]byte(ahead), n); string(got) != ahead+want {
			t.Fatalf("Number(%q, %d) = %q", ahead, n, got)
		}
	}
	if got := jprint.Number(nil, n); string(got) != want {
		t.Fatalf("Number(nil, %d) = %q", n, got)
	}
	checkPrinted(t, number(n), want)
	checkPrinted(t, list(number(n), object("a|", number(n))), "["+want+`,{"a":`+want+"}]")
}

// P8.2: 0, both ends, with each count of digits the least and the greatest, and what is next to powers of 2 and 10.
func TestNumber(t *testing.T) {
	for s, n := range map[string]int64{"0": 0, "-9223372036854775808": math.MinInt64, "9223372036854775807": math.MaxInt64, "7": 7, "-7": -7, "9": 9, "-9": -9, "10": 10, "1000000000000000000": 1000000000000000000, "-1000000000000000000": -1000000000000000000} {
		if got := jprint.Number(nil, n); string(got) != s {
			t.Errorf("Number(nil, %d) = %q", n, got)
		}
	}
	for n := int64(-1100); n <= 1100; n++ {
		checkNumber(t, n)
	}
	for _, base := range []int64{2, 10} {
		for power, last := base, int64(0); power > last; last, power = power, power*base {
			for off := int64(-2); off <= 2; off++ {
				checkNumber(t, power+off)
				checkNumber(t, -power+off)
			}
			if power > math.MaxInt64/base {
				break
			}
		}
	}
	for off := range int64(1000) {
		checkNumber(t, math.MaxInt64-off)
		checkNumber(t, math.MinInt64+off)
	}
	some := random(82)
	for range 5000 {
		n := int64(some(math.MaxInt)) >> some(63)
		checkNumber(t, n)
		checkNumber(t, -n)
	}
}

// P8.2, rules 8 and 10: b is as it was; behind it no more than its spare room is written.
func TestNumberStandsBehind(t *testing.T) {
	for _, n := range []int64{0, -7, 12345, math.MaxInt64, math.MinInt64} {
		want := fmt.Sprint(n)
		for room := range 40 {
			memory := bytes.Repeat([]byte{0xee}, 80)
			got := jprint.Number(memory[3:10:10+room], n)
			if string(got) != strings.Repeat("\xee", 7)+want {
				t.Fatalf("with room of %d Number(.., %d) = %q", room, n, got)
			}
			if !bytes.Equal(memory[:10], bytes.Repeat([]byte{0xee}, 10)) || !bytes.Equal(memory[10+room:], bytes.Repeat([]byte{0xee}, 70-room)) {
				t.Fatalf("with room of %d the bytes around are %q", room, memory)
			}
		}
	}
}

// padded is a list of a text, so long that the whole list's text has that many bytes, and others behind it.
func padded(size int, behind ...api.Json) api.Json {
	j := list(append([]api.Json{text("")}, behind...)...)
	j.Items[0].Text = strings.Repeat("a", size-len(line(j)))
	return j
}

// P8.3: just MaxJson bytes, and one more and less, whatever part is the last one that has room.
func TestMostBytes(t *testing.T) {
	tails := []api.Json{null(), truth(0), truth(1), number(0), number(math.MinInt64), number(1234567), text(""), text("abc"), text("\x01\x02"), text("\n"), text("ä€😀"), list(), object(""), list(null(), null()), list(number(1), list(list(number(2)))), object("a|", null()), object("key|\n|", text("x"), list()), object("abc|", object("d|", object("e|", number(1)))), within(null(), "[{[{[{")}
	for _, tail := range tails {
		for size := 20000 - 60; size <= 20000+60; size++ {
			for _, j := range []api.Json{padded(size, tail), padded(size, tail, number(1)), padded(size, tail, list(), text("b"))} {
				if got := len(line(j)); got != size {
					t.Fatalf("it has %d bytes, not %d", got, size)
				}
				_, e := jprint.Print(j)
				if want := size > 20000; (e == api.ErrBig) != want || !want && e != api.OK {
					t.Fatalf("with %d bytes, and %s at the end, %d is told", size, said(tail), int(e))
				}
			}
			if size >= 20000-1 && size <= 20000+1 {
				checkWanted(t, padded(size, tail))
			}
		}
	}
}

// P8.3: just MaxJson bytes, and one more, of texts of many shapes.
func TestMostBytesOfOneShape(t *testing.T) {
	repeated := func(j api.Json, count int) []api.Json { return slices.Repeat([]api.Json{j}, count) }
	for _, pair := range [][2]api.Json{
		{text(strings.Repeat("a", 19998)), text(strings.Repeat("a", 19999))},
		{text(strings.Repeat("\n", 9999)), text(strings.Repeat("\n", 9999) + "a")},
		{text(strings.Repeat("\x01", 3333)), text(strings.Repeat("\x01", 3333) + "a")},
		{text(strings.Repeat("\"", 9999)), text("a" + strings.Repeat("\"", 9999))},
		{text(strings.Repeat("ä", 9999)), text("a" + strings.Repeat("ä", 9999))},
		{text(strings.Repeat("😀", 4999) + "ab"), text("abc" + strings.Repeat("😀", 4999))},
		{list(append(repeated(number(7), 9998), number(77))...), list(append(repeated(number(7), 9998), number(777))...)},
		{list(append(repeated(list(), 6666), list())[:6666]...), list(append(repeated(list(), 6665), list(number(1), number(2)))...)},
		{list(append(repeated(null(), 3999), number(123))...), list(append(repeated(null(), 3999), null())...)},
		{object(strings.Repeat("k", 19994)+"|", number(1)), object(strings.Repeat("k", 19995)+"|", number(1))},
		{object(strings.Repeat("\x1f", 3332)+"ab|", number(1)), object(strings.Repeat("\x1f", 3332)+"abc|", number(1))},
		{object("a|", text(strings.Repeat("k", 19992))), object("a|", text(strings.Repeat("k", 19993)))},
		{within(text(strings.Repeat("a", 20000-2-64)), strings.Repeat("[", 32)), within(text(strings.Repeat("a", 20000-1-64)), strings.Repeat("[", 32))},
	} {
		if !checkWanted(t, pair[0]) || !checkWanted(t, pair[1]) {
			t.Fatalf("one of %s and %s may not be", said(pair[0]), said(pair[1]))
		}
		most, over := len(line(pair[0])), len(line(pair[1]))
		if _, e := jprint.Print(pair[0]); e != api.OK || most > 20000 || most < 19999 {
			t.Errorf("%s, of %d bytes, tells %d", said(pair[0]), most, int(e))
		}
		if _, e := jprint.Print(pair[1]); e != api.ErrBig || over > 20004 || over < 20001 {
			t.Errorf("%s, of %d bytes, tells %d", said(pair[1]), over, int(e))
		}
	}
}

// P8.3: far more than MaxJson bytes, whatever part is too long, and however short all behind it is.
func TestFarTooGreat(t *testing.T) {
	long := strings.Repeat("a", 1<<20)
	wide := make([]api.Json, 1<<20)
	for place := range wide {
		wide[place] = number(int64(place))
	}
	for _, j := range []api.Json{text(long), text(strings.Repeat("\x00", 1<<20)), list(wide...), object(long+"|", null()), object("a|", text(long)), object("b|"+long+"|c|", null(), null(), null())} {
		checkRefused(t, j, api.ErrBig)
		for _, x := range []api.Json{list(j), list(j, null()), list(null(), j), list(j, j), object("a|", j), object("a|b|c|", null(), j, null()), within(list(j, number(1)), "[{[{[{")} {
			checkRefused(t, x, api.ErrBig)
		}
	}
}

// P8.3: a tree that may not be is told ahead of one that is too great, wherever what is wrong stands.
func TestErrArgAheadOfErrBig(t *testing.T) {
	great := text(strings.Repeat("a", 20000))
	big := make([]api.Json, 30000)
	for place := range big {
		big[place] = null()
	}
	for _, wrong := range []api.Json{{}, {Kind: 7}, {Kind: api.JNull, Int: 1}, truth(2), text("\xff"), {Kind: api.JInt, Text: "a"}, {Kind: api.JNull, Items: big}, object("a|a|", null(), null()), object("a|b|", null()), object("\xff|", null()), within(null(), strings.Repeat("[", 33)), {Kind: api.JList, Keys: []string{"a"}}} {
		checkRefused(t, list(great, great), api.ErrBig)
		checkRefused(t, list(great, wrong), api.ErrArg)
		checkRefused(t, list(wrong, great), api.ErrArg)
		checkRefused(t, object("a|b|", great, wrong), api.ErrArg)
		checkRefused(t, list(list(great, great), list(list(great, object("a|", list(great, wrong))))), api.ErrArg)
		checkRefused(t, list(append(slices.Clone(big), wrong)...), api.ErrArg)
	}
	checkRefused(t, text(great.Text+"\xff"), api.ErrArg)
	checkRefused(t, text("\xff"+great.Text), api.ErrArg)
	checkRefused(t, object(great.Text+"\xe2\x82|", null()), api.ErrArg)
	checkRefused(t, object(great.Text+"|b|"+great.Text+"|", null(), null(), null()), api.ErrArg)
	checkRefused(t, api.Json{Kind: api.JText, Text: great.Text, Int: 1}, api.ErrArg)
	checkRefused(t, api.Json{Kind: api.JList, Items: big, Keys: []string{"a"}}, api.ErrArg)
	checkRefused(t, api.Json{Kind: api.JObj, Items: big}, api.ErrArg)
}

// P8.4: texts with white bytes, and escapes that need not be, are printed without them, and that is parsed and printed as it is.
func TestParsedAndPrinted(t *testing.T) {
	check := func(s, want string) {
		t.Helper()
		j, e := jparse.Parse([]byte(s))
		if e != api.OK {
			t.Fatalf("Parse(%q): %d", s, int(e))
		}
		checkPrinted(t, j, want)
	}
	for s, want := range map[string]string{
		" null ": "null", "\n\ttrue\r": "true", " false": "false", "-0": "0", " -12 ": "-12", "0": "0",
		` "a\/b" `: `"a/b"`, `"\u0061\u00e4\u20AC"`: `"aä€"`, `"\ud83d\ude00\uD83D\uDE00"`: `"😀😀"`, `"\u0022\u005c\u002f"`: `"\"\\/"`, `"\u0008\u000c\u000a\u000d\u0009"`: `"\b\f\n\r\t"`, `"\u0000\u001F\u0020\u007f"`: "\"\\u0000\\u001f \x7f\"", `"\\u0061"`: `"\\u0061"`, `"\" \\ \b"`: `"\" \\ \b"`, `"\u000B"`: `"\u000b"`,
		" [ ] ": "[]", "[\n1 ,\t2\r, 3 ]": "[1,2,3]", "{ }": "{}", "{ \"a\" :\n[ 1, true ] , \"b\":{\t} }": `{"a":[1,true],"b":{}}`, `{"\u0062" : 1, "\u0061" : 2}`: `{"b":1,"a":2}`, `[ "a , b" , " [ " ]`: `["a , b"," [ "]`, `{"\/\n":"\/"}`: `{"/\n":"/"}`,
	} {
		check(s, want)
		check("["+s+"]", "["+want+"]")
		check("[ {\"k\" : "+s+"\n} , "+s+" ]", `[{"k":`+want+"},"+want+"]")
	}
}

// anyTree is a tree that may be and hangs on no rule, in so many others at most.
func anyTree(some func(int) int, left int) api.Json {
	texts := []string{"", "a", "b", "c", "ä€😀", "\n\"\\", "\x00\x1f\x7f", "a b", "/", "null", "\u2028"}
	kind := some(12)
	if left == 0 {
		kind = 6 + some(6)
	}
	switch {
	case kind < 3:
		j := list()
		for range some(5) {
			j.Items = append(j.Items, anyTree(some, left-1))
		}
		return j
	case kind < 6:
		j := object("")
		for range some(5) {
			if key := texts[some(len(texts))]; !slices.Contains(j.Keys, key) {
				j.Keys = append(j.Keys, key)
				j.Items = append(j.Items, anyTree(some, left-1))
			}
		}
		return j
	case kind < 8:
		return text(texts[some(len(texts))] + texts[some(len(texts))])
	case kind < 10:
		n := int64(some(math.MaxInt)) >> some(63)
		return number([]int64{n, -n}[some(2)])
	case kind < 11:
		return truth(int64(some(2)))
	}
	return null()
}

// spread is a text of the tree with white bytes, and with escapes that need not be.
func spread(some func(int) int, s string) string {
	var b strings.Builder
	white := func() { b.WriteString([]string{"", "", " ", "\n", "\t \r\n"}[some(5)]) }
	inText := false
	for place := 0; place < len(s); place++ {
		switch x := s[place]; {
		case x == '"':
			if !inText {
				white()
			}
			b.WriteByte(x)
			if inText {
				white()
			}
			inText = !inText
		case inText && x == '\\':
			b.WriteString(s[place : place+2])
			place++
		case inText && (x == '/' || x >= 'a' && x <= 'c') && some(2) == 0:
			fmt.Fprintf(&b, []string{"\\u%04x", "\\u%04X"}[some(2)], x)
		case !inText && strings.IndexByte("{}[]:,", x) >= 0:
			white()
			b.WriteByte(x)
			white()
		default:
			b.WriteByte(x)
		}
	}
	return b.String()
}

// ofLibrary is the tree of a text, by the library's words.
func ofLibrary(t *testing.T, s []byte) api.Json {
	t.Helper()
	d := json.NewDecoder(bytes.NewReader(s))
	d.UseNumber()
	next := func() json.Token {
		token, err := d.Token()
		if err != nil {
			t.Fatalf("the library, of %q: %v", s, err)
		}
		return token
	}
	var tree func(token json.Token) api.Json
	tree = func(token json.Token) api.Json {
		switch x := token.(type) {
		case bool:
			return truth(map[bool]int64{true: 1}[x])
		case string:
			return text(x)
		case json.Number:
			n, err := x.Int64()
			if err != nil {
				t.Fatalf("the library, of %q: %v", s, err)
			}
			return number(n)
		case json.Delim:
			j := api.Json{Kind: map[json.Delim]int{'[': api.JList, '{': api.JObj}[x]}
			for d.More() {
				if x == '{' {
					j.Keys = append(j.Keys, next().(string))
				}
				j.Items = append(j.Items, tree(next()))
			}
			next()
			return j
		}
		return null()
	}
	return tree(next())
}

// P8.3, P8.4, of trees that hang on no rule: their texts are the chapter's, the library reads them as the trees, and they are printed of other texts of theirs too.
func TestAnyTrees(t *testing.T) {
	some := random(83)
	for range 6000 {
		j := anyTree(some, 1+some(6))
		s := line(j)
		if len(s) > 2000 {
			continue
		}
		checkPrinted(t, j, s)
		b, _ := jprint.Print(j)
		if got := ofLibrary(t, b); !reflect.DeepEqual(plain(got), plain(j)) {
			t.Fatalf("the library reads %q as %s, not %s", b, said(got), said(j))
		}
		var compact bytes.Buffer
		if err := json.Compact(&compact, b); err != nil || !bytes.Equal(compact.Bytes(), b) {
			t.Fatalf("%q is more than the library's %q, %v", b, compact.Bytes(), err)
		}
		other := spread(some, s)
		parsed, e := jparse.Parse([]byte(other))
		if e != api.OK {
			t.Fatalf("Parse(%q): %d", other, int(e))
		}
		checkPrinted(t, parsed, s)
	}
}

// spoil puts something that may not be, or may be, somewhere into a tree.
func spoil(some func(int) int, j *api.Json) {
	for len(j.Items) > 0 && some(4) > 0 {
		j = &j.Items[some(len(j.Items))]
	}
	switch some(9) {
	case 0:
		j.Kind = some(9) - 1
	case 1:
		j.Int += int64(some(3) - 1)
	case 2:
		j.Text += []string{"", "a", "\xc3", "\xa4"}[some(4)]
	case 3:
		j.Items = append(j.Items, null())
	case 4:
		j.Keys = append(j.Keys, []string{"a", "z", "\xff"}[some(3)])
	case 5:
		j.Items = append(j.Items, null())
		j.Keys = append(j.Keys, []string{"", "a", "z", "\xc3"}[some(4)])
	case 6:
		j.Items = j.Items[:len(j.Items)/2]
	case 7:
		j.Keys = j.Keys[:len(j.Keys)/2]
	case 8:
		if len(j.Keys) > 0 {
			j.Keys[some(len(j.Keys))] = j.Keys[some(len(j.Keys))]
		}
	}
}

// P8.1, P8.3, of trees that hang on no rule, and into which something was put that may or may not be.
func TestSpoiledTrees(t *testing.T) {
	some := random(84)
	rights, wrongs := 0, 0
	for range 30000 {
		j := anyTree(some, some(6))
		spoil(some, &j)
		if checkWanted(t, j) {
			rights++
		} else {
			wrongs++
		}
	}
	if rights < 5000 || wrongs < 5000 {
		t.Errorf("%d are right, and %d are not", rights, wrongs)
	}
}

// Rule 3: a list without an element may be nil or empty.
func TestEmptyLists(t *testing.T) {
	for s, j := range map[string]api.Json{"null": null(), "true": truth(1), "5": number(5), `"a"`: text("a"), "[]": list(), "{}": object(""), "[1]": list(number(1))} {
		for _, items := range [][]api.Json{nil, {}, []api.Json{{Kind: 9}}[:0]} {
			for _, keys := range [][]string{nil, {}, []string{"\xff"}[:0]} {
				x := j
				x.Keys = keys
				if len(x.Items) == 0 {
					x.Items = items
				}
				checkPrinted(t, x, s)
				checkPrinted(t, list(x), "["+s+"]")
			}
		}
	}
}

// Rules 4 and 8: a tree stays as it is, what lies behind its lists too, which is not read; what is printed is new memory each time.
func TestTreeStaysAsItIs(t *testing.T) {
	fresh := func() api.Json {
		items := []api.Json{text("a"), list([]api.Json{number(1), {Kind: 99}, number(3)}[:1]...), null(), {Kind: 98}, text("\xff")}
		return api.Json{Kind: api.JObj, Items: items[:3], Keys: []string{"b", "a", "c", "a", "\xff"}[:3]}
	}
	j, want := fresh(), fresh()
	checkPrinted(t, j, `{"b":"a","a":[1],"c":null}`)
	if !reflect.DeepEqual(j.Items[:5], want.Items[:5]) || !slices.Equal(j.Keys[:5], want.Keys[:5]) || !reflect.DeepEqual(j.Items[1].Items[:3], want.Items[1].Items[:3]) {
		t.Errorf("it is %v", j.Items[:5])
	}
	first, _ := jprint.Print(j)
	second, _ := jprint.Print(j)
	was := slices.Clone(second[:cap(second)])
	for place := range first[:cap(first)] {
		first[:cap(first)][place] = 0xee
	}
	if !bytes.Equal(second[:cap(second)], was) {
		t.Errorf("two answers share memory: %q was %q", second[:cap(second)], was)
	}
	checkPrinted(t, j, `{"b":"a","a":[1],"c":null}`)
	for s, j := range given() {
		was := said(j)
		jprint.Print(j)
		jprint.Right(j)
		if said(j) != was {
			t.Errorf("%s is now %s", s, said(j))
		}
	}
}
