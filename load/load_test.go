package load_test

import (
	"fmt"
	"reflect"
	"slices"
	"strings"
	"testing"

	"avocet/api"
	"avocet/load"
)

// The chapter's own example.
func TestExample(t *testing.T) {
	checkLoaded(t, `"int"`, "int")
}

// P14.1: bytes that are no tree.
func TestNoTree(t *testing.T) {
	if s, e := load.Text(nil); e != 20 || !alike(s, api.Schema{}) {
		t.Errorf("Text(nil) = %s, %d", line(s), e)
	}
	checkRows(t, []row{
		// No bytes, or no word of a value.
		{"", "", 20}, {" ", "", 20}, {"\t\r\n ", "", 20}, {"int", "", 20}, {"'int'", "", 20}, {"Int", "", 20}, {`"int`, "", 20}, {`int"`, "", 20}, {`"`, "", 20}, {"@", "", 20}, {"\x00", "", 20}, {"nul", "", 20}, {"nullx", "", 20}, {"True", "", 20}, {"+1", "", 20}, {"-", "", 20}, {"01", "", 20}, {"1x", "", 20},
		{"\"in\nt\"", "", 20}, {"\"in\xff\"", "", 20}, {"\"\xc3\"", "", 20}, {"\"\xed\xa0\x80\"", "", 20}, {`"\x"`, "", 20}, {`"\u00e"`, "", 20}, {`"\ud800"`, "", 20}, {`"\udc00\ud800"`, "", 20}, {"\xef\xbb\xbf\"int\"", "", 20}, {`"int"//`, "", 20},
		// Words in another order.
		{"{", "", 20}, {"}", "", 20}, {"[", "", 20}, {"]", "", 20}, {":", "", 20}, {",", "", 20}, {`["int"`, "", 20}, {`["int",]`, "", 20}, {`[,"int"]`, "", 20}, {`["int" "null"]`, "", 20}, {`["int"}`, "", 20}, {`{"type":"int"`, "", 20}, {`{"type":"int"]`, "", 20}, {`{"type":"int",}`, "", 20}, {`{"type" "int"}`, "", 20}, {`{"type"}`, "", 20}, {`{type:"int"}`, "", 20}, {`{1:"int"}`, "", 20},
		{`"int""int"`, "", 20}, {`"int" "int"`, "", 20}, {`"int",`, "", 20}, {`"int"]`, "", 20}, {`{"type":"int"}}`, "", 20}, {`["int"]["int"]`, "", 20}, {"\"int\"\x00", "", 20},
		// Numbers.
		{"1.5", "", 22}, {"1e3", "", 22}, {"1E3", "", 22}, {"9223372036854775808", "", 22}, {"-9223372036854775809", "", 22},
		{`{"type":"fixed","name":"x","size":4.0}`, "", 22}, {`{"type":"fixed","name":"x","size":4e0}`, "", 22}, {`{"type":"int","doc":99999999999999999999}`, "", 22},
		{`{"type":"record","name":"r","fields":[{"name":"f","type":"double","default":1.5}]}`, "", 22},
		// A key twice, though it says the same, or nothing.
		{`{"type":"int","type":"int"}`, "", 23}, {`{"type":"int","doc":1,"doc":1}`, "", 23}, {`{"":0,"type":"int","":0}`, "", 23}, {`["null",{"type":"array","items":"int","items":"int"}]`, "", 23}, {`{"type":"int","\u0074ype":"int"}`, "", 23},
		{`{"type":"record","name":"r","fields":[{"name":"f","type":"int","name":"g"}]}`, "", 23}, {`{"type":"record","name":"r","fields":[{"name":"f","type":{"type":"map","values":"int"},"default":{"a":1,"b":2,"a":1}}]}`, "", 23},
	})
}

// arrays is the text of a node in so many arrays.
func arrays(many int, inside string) string {
	return strings.Repeat(`{"type":"array","items":`, many) + inside + strings.Repeat("}", many)
}

// maps is the text of a node in so many maps.
func maps(many int, inside string) string {
	return strings.Repeat(`{"type":"map","values":`, many) + inside + strings.Repeat("}", many)
}

// lists is the text of so many lists in each other.
func lists(many int) string { return strings.Repeat("[", many) + strings.Repeat("]", many) }

// P14.1: trees that are just as deep as they may be, and deeper, by what a schema is made of and by what says nothing.
func TestDeep(t *testing.T) {
	for deep := 26; deep <= 40; deep++ {
		for _, text := range []string{
			arrays(deep, `"int"`), arrays(deep-1, `["int"]`), arrays(deep-1, `{"type":"int"}`), maps(deep, `"int"`), maps(deep-20, arrays(20, `"int"`)),
			fmt.Sprintf(`{"type":"int","doc":%s}`, lists(deep-1)), fmt.Sprintf(`["int",{"type":"null","doc":%s}]`, lists(deep-2)),
			fields(arrays(deep-3, `"int"`)), fields(`"int"`, arrays(deep-4, `{"type":"fixed","name":"x","size":1}`)),
			`{"type":"record","name":"r","fields":[{"name":"f","type":"int","doc":` + lists(deep-3) + `}]}`,
		} {
			want := api.OK
			if deep > 32 {
				want = 21
			}
			if _, e := checkBytes(t, []byte(text)); e != want {
				t.Errorf("Text(%s), %d deep, is %d", text, deep, e)
			}
		}
	}
	// The nodes of a text may be as deep as it is.
	if s, _ := load.Text([]byte(arrays(32, `"int"`))); len(s.Nodes) != 33 {
		t.Errorf("%s", line(s))
	}
	// Lists in each other are no schema, which is told only if they are a tree.
	checkRows(t, []row{
		{lists(1), "", 34}, {lists(2), "", 34}, {lists(32), "", 34}, {lists(33), "", 21}, {strings.Repeat("[", 32), "", 20}, {strings.Repeat("[", 33), "", 21}, {strings.Repeat("[", 20000), "", 21}, {strings.Repeat("[", 20001), "", 3},
	})
}

// fields is the text of a record r with fields f0, f1 and so on of types.
func fields(types ...string) string { return record("r", types...) }

// record is the text of a record of such fields.
func record(name string, types ...string) string {
	var all []string
	for n, of := range types {
		all = append(all, fmt.Sprintf(`{"name":"f%d","type":%s}`, n, of))
	}
	return fmt.Sprintf(`{"type":"record","name":"%s","fields":[%s]}`, name, strings.Join(all, ","))
}

// names is the text of a list of so many names.
func names(many int) string {
	var all []string
	for n := range many {
		all = append(all, fmt.Sprintf(`"n%d"`, n))
	}
	return "[" + strings.Join(all, ",") + "]"
}

// times is a text so many times.
func times(many int, text string) []string { return slices.Repeat([]string{text}, many) }

// P14.1: trees that Build refuses, by each number that it has for trees of texts.
func TestNoSchema(t *testing.T) {
	checkRows(t, []row{
		// No schema.
		{`null`, "", 30}, {`true`, "", 30}, {`7`, "", 30}, {`{}`, "", 30}, {`{"type":7}`, "", 30}, {`{"type":null}`, "", 30}, {`{"type":{"type":"int"}}`, "", 30}, {`{"type":["int"]}`, "", 30}, {`{"type":"array"}`, "", 30}, {`{"type":"map","items":"int"}`, "", 30}, {`{"type":"record","name":"r"}`, "", 30}, {`{"type":"record","fields":[]}`, "", 30}, {`{"type":"enum","name":"e","symbols":[]}`, "", 30}, {`{"type":"fixed","name":"x","size":"1"}`, "", 30}, {`["int",7]`, "", 30}, {fields(`"int"`, `7`), "", 30},
		// Names that may not be.
		{`"1"`, "", 31}, {`""`, "", 31}, {`"a b"`, "", 31}, {`{"type":"fixed","name":"int","size":1}`, "", 31}, {`{"type":"fixed","name":"x.","size":1}`, "", 31}, {`{"type":"record","name":"r","fields":[{"name":"a.b","type":"int"}]}`, "", 31}, {`{"type":"enum","name":"e","symbols":["A","-"]}`, "", 31}, {`{"type":"record","name":"r","aliases":["1"],"fields":[]}`, "", 31}, {record(strings.Repeat("x", 101)), "", 31}, {fields(`"-"`), "", 31},
		// Names that are unknown, and ones that are known.
		{`"x"`, "", 33}, {`"record"`, "", 33}, {`{"type":"n.x"}`, "", 33}, {`["x",{"type":"fixed","name":"x","size":1}]`, "", 33}, {record("n.r", `["null","m.r"]`), "", 33},
		{`[{"type":"fixed","name":"x","size":1},{"type":"fixed","name":"x","size":1}]`, "", 32}, {fields(record("r")), "", 32},
		// Unions that may not be.
		{`[]`, "", 34}, {`["int","int"]`, "", 34}, {`["int",["null"]]`, "", 34}, {`[{"type":"array","items":"int"},{"type":"array","items":"long"}]`, "", 34}, {`[{"type":"fixed","name":"x","size":1},"x"]`, "", 34}, {`[` + record("a") + `,` + strings.Join(times(10, `"int"`), ",") + `]`, "", 34},
		// Fields, and symbols, twice.
		{`{"type":"record","name":"r","fields":[{"name":"f","type":"int"},{"name":"f","type":"int"}]}`, "", 36}, {`{"type":"enum","name":"e","symbols":["A","B","A"]}`, "", 36},
		// A default of an enum that is none of its symbols.
		{`{"type":"enum","name":"e","symbols":["A","B"],"default":"C"}`, "", 35}, {`{"type":"enum","name":"e","symbols":["A","B"],"default":""}`, "", 35},
		// Sizes.
		{`{"type":"fixed","name":"x","size":-1}`, "", 3}, {`{"type":"fixed","name":"x","size":0}`, "fixed x 0", 0}, {`{"type":"fixed","name":"x","size":1000}`, "fixed x 1000", 0}, {`{"type":"fixed","name":"x","size":1001}`, "", 3}, {`{"type":"fixed","name":"x","size":9223372036854775807}`, "", 3},
		// A record that is a part of itself by fields alone.
		{fields(`"r"`), "", 3}, {fields(`"null"`, `"r"`), "", 3}, {fields(record("s", `"r"`)), "", 3}, {fields(record("s", `"null"`, `["r"]`)), "record r f0:1; record s f0:2 f1:3; null; union 0", 0},
	})
}

// P14.1: how many fields, symbols, aliases, branches and nodes there may be, how much a node may weigh, and beyond.
func TestTooMuch(t *testing.T) {
	checkMost := func(most, count int, text string) {
		t.Helper()
		want := api.OK
		if count > most {
			want = 3
		}
		if _, e := checkBytes(t, []byte(text)); e != want {
			t.Errorf("Text(%.300s) of %d, at most %d, is %d", text, count, most, e)
		}
	}
	for _, count := range []int{39, 40, 41, 42} {
		checkMost(40, count, fields(times(count, `"null"`)...))
		checkMost(40, count, fmt.Sprintf(`{"type":"enum","name":"e","symbols":%s}`, names(count)))
		checkMost(40, count, fmt.Sprintf(`{"type":"fixed","name":"e","size":1,"aliases":%s}`, names(count)))
		checkMost(40, count, fmt.Sprintf(`{"type":"record","name":"r","fields":[{"name":"f","type":"int","aliases":%s}]}`, names(count)))
	}
	for _, count := range []int{9, 10, 11} {
		var branches []string
		for n := range count {
			branches = append(branches, record(fmt.Sprint("r", n)))
		}
		want := map[int]api.Errno{11: 34}[count]
		if _, e := checkBytes(t, []byte("["+strings.Join(branches, ",")+"]")); e != want {
			t.Errorf("of %d branches it is %d", count, e)
		}
	}
	// The nodes are a record, five in it, and what these have.
	for count := 196; count <= 204; count++ {
		inner := []string{record("a", times(40, `"int"`)...), record("b", times(40, `"int"`)...), record("c", times(40, `"int"`)...), record("d", times(40, `"int"`)...), record("e", times(count-166, `"int"`)...)}
		checkMost(200, count, fields(inner...))
	}
	// A record of 1 and 27 for each field, and of one field more.
	for _, outer := range []int{36, 37, 38} {
		types := append([]string{record("i", times(26, `"int"`)...)}, times(outer-1, `"i"`)...)
		checkMost(1000, 1+27*outer, fields(types...))
	}
	heavy := append([]string{record("i", times(26, `"int"`)...)}, times(36, `"i"`)...)
	checkMost(1000, 1001, fields(append(heavy, `"int"`)...))
	checkMost(1000, 1000, arrays(20, fields(heavy...)))
	checkMost(1000, 1001, arrays(20, fields(append(heavy, `"int"`)...)))
}

// with is the text of a record r with fields of types and defaults, by turns; without one, where that is the empty text.
func with(parts ...string) string {
	var all []string
	for n := 0; n < len(parts); n += 2 {
		field := fmt.Sprintf(`{"name":"f%d","type":%s`, n/2, parts[n])
		if parts[n+1] != "" {
			field += `,"default":` + parts[n+1]
		}
		all = append(all, field+"}")
	}
	return `{"type":"record","name":"r","fields":[` + strings.Join(all, ",") + `]}`
}

// inner is with, of another name.
func inner(name string, parts ...string) string {
	return strings.Replace(with(parts...), `"r"`, `"`+name+`"`, 1)
}

// P14.1: a default that says a value, and one that says none, of each kind: alone, as the first, a middle and the last one of several, of a record in another, and behind it.
func TestDefaults(t *testing.T) {
	for _, one := range []struct{ of, says, not string }{
		{`"null"`, `null`, `0`}, {`"boolean"`, `true`, `1`}, {`"int"`, `2147483647`, `2147483648`}, {`"int"`, `-2147483648`, `-2147483649`}, {`"long"`, `-9223372036854775808`, `"1"`}, {`"float"`, `1`, `null`}, {`"double"`, `1`, `"1"`},
		{`"bytes"`, `"\u00ff"`, `"\u0100"`}, {`"bytes"`, `"ÿ"`, `"Ā"`}, {`"string"`, `""`, `0`}, {`{"type":"fixed","name":"x","size":2}`, `"ab"`, `"abc"`}, {`{"type":"fixed","name":"x","size":2}`, `"ÿÿ"`, `"a"`}, {`{"type":"enum","name":"e","symbols":["A","B"],"default":"A"}`, `"B"`, `"C"`},
		{`{"type":"array","items":"int"}`, `[]`, `{}`}, {`{"type":"array","items":"int"}`, `[1,2,3]`, `[1,null,3]`}, {`{"type":"map","values":"int"}`, `{"":1,"a":2}`, `{"":1,"a":true}`}, {`{"type":"map","values":"int"}`, `{}`, `[]`},
		{`["int","null"]`, `7`, `null`}, {`["null","int"]`, `null`, `7`}, {inner("i", `"int"`, `1`, `"string"`, ``), `{"f1":"a"}`, `{"f0":1}`}, {inner("i"), `{"no":1}`, `[]`},
	} {
		for _, around := range []func(d string) string{
			func(d string) string { return with(one.of, d) },
			func(d string) string { return with(one.of, d, `"int"`, `1`, `"string"`, `"a"`) },
			func(d string) string { return with(`"int"`, `1`, one.of, d, `"string"`, `"a"`) },
			func(d string) string { return with(`"int"`, ``, `"string"`, `"a"`, one.of, d) },
			func(d string) string { return with(inner("o", one.of, d), ``) },
			func(d string) string { return with(`"int"`, `1`, inner("o", `"null"`, ``, one.of, d), ``, `"int"`, ``) },
			func(d string) string { return with(inner("o", `"int"`, `1`), `{}`, one.of, d) },
			func(d string) string { return "[" + arrays(1, maps(1, with(one.of, d))) + "]" },
			func(d string) string { return `["null",` + inner("o") + "," + with(one.of, d) + "]" },
		} {
			checkDefaults(t, around(one.says), api.OK)
			checkDefaults(t, around(one.not), 35)
		}
	}
}

// checkDefaults holds whether a schema's defaults refuse it.
func checkDefaults(t *testing.T, text string, want api.Errno) {
	t.Helper()
	if _, e := checkBytes(t, []byte(text)); e != want {
		t.Errorf("Text(%.300s) is %d, not %d", text, e, want)
	}
}

// P14.1: which of several defaults say none: any of them refuses the schema.
func TestAnyDefault(t *testing.T) {
	for some := range 64 {
		d := func(n int) string {
			if some&(1<<n) != 0 {
				return `"no"`
			}
			return `7`
		}
		want := api.OK
		if some != 0 {
			want = 35
		}
		checkDefaults(t, with(`"int"`, d(0), inner("o", `"int"`, d(1), arrays(1, inner("p", `"long"`, d(2), `"int"`, d(3))), `[]`), ``, `["int","string"]`, d(4), `"double"`, d(5)), want)
	}
}

// P14.1: defaults that are filled up by others, without an end or not, and how many parts one may have.
func TestDefaultsFilledUp(t *testing.T) {
	checkRows(t, []row{
		{with(`["r","null"]`, `{}`), "", 35}, {with(`["null","r"]`, `{}`), "", 35}, {with(`["null","r"]`, `null`), "record r f0:1=null; union 2 0; null", 0},
		{with(`["r"]`, `{}`, `["r"]`, `{}`), "", 35}, {with(arrays(1, `"r"`), `[{}]`), "", 35}, {with(arrays(1, `"r"`), `[]`), "record r f0:1=[]; array 0", 0}, {with(maps(1, `"r"`), `{"a":{}}`), "", 35},
		{with(inner("o", `["r"]`, `{}`), `{}`), "", 35}, {with(inner("o", `["r"]`, `{}`), ``), "", 35}, {with(inner("o", `["r"]`, ``), ``, `"o"`, `{"f0":{}}`), "", 35},
		{with(arrays(1, `"r"`), `[{"f0":[]},{"f0":[]}]`), "record r f0:1=[{\"f0\":[]},{\"f0\":[]}]; array 0", 0},
	})
	for _, parts := range []int{998, 999, 1000, 1001, 1002} {
		want := api.OK
		if parts > 1000 {
			want = 35
		}
		// A list, four in it, and their items.
		sizes := []int{250, 250, 250, parts - 755}
		var all []string
		for _, size := range sizes {
			all = append(all, "["+strings.Join(times(size, "null"), ",")+"]")
		}
		d := "[" + strings.Join(all, ",") + "]"
		checkDefaults(t, with(arrays(2, `"null"`), d), want)
		checkDefaults(t, with(`"int"`, `1`, arrays(2, `"null"`), d, `"int"`, `1`), want)
		checkDefaults(t, with(inner("o", arrays(2, `"null"`), d), ``), want)
	}
	for deep := 17; deep <= 24; deep++ {
		want := api.OK
		if deep > 20 {
			want = 35
		}
		checkDefaults(t, with(arrays(deep, `"null"`), lists(deep)), want)
		checkDefaults(t, with(arrays(deep, `"null"`), `[]`, arrays(deep, `"null"`), lists(deep)), want)
		checkDefaults(t, with(arrays(deep, `"null"`), `[]`), api.OK)
	}
}

// P14.1: of things that are wrong the first: bytes that are no tree ahead of a tree that is no schema, and that ahead of a default that says no value, wherever they stand.
func TestOrder(t *testing.T) {
	const last = `"type":"int","default":"no"`
	fault := map[string]api.Errno{
		`"type":"int"`: 0, `"type":"int","default":7`: 0, last: 35,
		`"type":1`: 30, `"type":"-"`: 31, `"type":"none"`: 33, `"type":"r"`: 3, `"type":[]`: 34, `"type":{"type":"fixed","name":"r","size":1}`: 32, `"type":"int","aliases":["a.b"]`: 31, `"type":{"type":"enum","name":"e","symbols":["A","A"]}`: 36, `"type":{"type":"enum","name":"e","symbols":["A"],"default":"B"}`: 35, `"type":{"type":"fixed","name":"x","size":1001}`: 3,
		`"type":1.5`: 22, `"type":int`: 20, `"type":"int",`: 20, `"type":"int","type":"int"`: 23, `"type":` + lists(30): 21,
	}
	stage := func(text string) int {
		switch e := fault[text]; {
		case e == 0:
			return 4
		case text == last:
			return 3
		// A weight is told at the end of all that Build tells.
		case text == `"type":"r"`:
			return 2
		case e >= 20 && e <= 23:
			return 0
		}
		return 1
	}
	var all []string
	for text := range fault {
		all = append(all, text)
	}
	slices.Sort(all)
	rows := 0
	for _, a := range all {
		for _, b := range all {
			for _, c := range all {
				first := a
				for _, one := range []string{b, c} {
					if stage(one) < stage(first) {
						first = one
					}
				}
				text := fmt.Sprintf(`{"type":"record","name":"r","fields":[{"name":"a",%s},{"name":"b",%s},{"name":"c",%s}]}`, a, strings.ReplaceAll(b, `"e"`, `"e1"`), strings.ReplaceAll(c, `"e"`, `"e2"`))
				checkRefusedOr(t, text, fault[first])
				rows++
			}
		}
	}
	if rows != 18*18*18 {
		t.Errorf("just %d rows", rows)
	}
}

// checkRefusedOr holds what a text is refused with; 0: nothing.
func checkRefusedOr(t *testing.T, text string, want api.Errno) {
	t.Helper()
	if s, e := checkBytes(t, []byte(text)); e != want || e == api.OK && len(s.Nodes) == 0 {
		t.Fatalf("Text(%s) = %s, %d, not %d", text, line(s), e, want)
	}
}

// P14.1: what refuses a text may stand ahead of all else, or at its very end.
func TestFarFaults(t *testing.T) {
	checkRows(t, []row{
		// The bytes end the text, or go on behind a schema.
		{with(`"int"`, `"no"`) + ",", "", 20}, {with(`"int"`, `"no"`) + "x", "", 20}, {`{"type":7}]`, "", 20}, {`{"type":7} 1.5`, "", 22}, {`["nothing"]` + strings.Repeat("[", 33), "", 20}, {`{"type":7,"type":8}`, "", 23},
		{`["nothing",` + lists(32) + `]`, "", 21}, {with(`"int"`, `"no"`, `7`, `1.5`), "", 22}, {with(`7`, `"no"`, `"int"`, lists(30)), "", 21},
		{with(`"int"`, `"no"`) + strings.Repeat(" ", 20001), "", 3}, {`{"type":7}` + strings.Repeat(" ", 20001), "", 3}, {strings.Repeat(" ", 20001) + "@", "", 3}, {"@" + strings.Repeat(" ", 20000), "", 3}, {"@" + strings.Repeat(" ", 19999), "", 20},
		// A default ahead of what is no schema, and behind it.
		{`[` + with(`"int"`, `"no"`) + `,7]`, "", 30}, {`[7,` + with(`"int"`, `"no"`) + `]`, "", 30}, {`[` + with(`"int"`, `"no"`) + `,"nothing"]`, "", 33}, {`[` + with(`"int"`, `"no"`) + `,` + with(`"int"`, `1`) + `]`, "", 32}, {`[` + with(`"int"`, `"no"`) + `,["int"]]`, "", 34},
		{with(`"int"`, `"no"`, `"r"`, ``), "", 3}, {with(`"r"`, `{}`), "", 3}, {with(`"r"`, `7`), "", 3}, {with(inner("o", `"int"`, `"no"`), ``, `"p"`, ``), "", 33}, {with(`"int"`, `"no"`, `{"type":"fixed","name":"x","size":1001}`, ``), "", 3},
		{with(append([]string{`"int"`, `"no"`}, times(80, `"null"`)...)...), "", 3},
	})
}

// P14.1: texts that are built, of each kind of node.
func TestLoaded(t *testing.T) {
	checkRows(t, []row{
		{`"null"`, "null", 0}, {`"boolean"`, "boolean", 0}, {`"int"`, "int", 0}, {`"long"`, "long", 0}, {`"float"`, "float", 0}, {`"double"`, "double", 0}, {`"bytes"`, "bytes", 0}, {`"string"`, "string", 0}, {`{"type":"string"}`, "string", 0}, {`{"doc":7,"type":"\u0069nt"}`, "int", 0},
		{`{"type":"array","items":"int"}`, "array 1; int", 0}, {`{"values":"bytes","type":"map"}`, "map 1; bytes", 0}, {`["null","int"]`, "union 1 2; null; int", 0}, {`{"type":"fixed","name":"x","size":16}`, "fixed x 16", 0}, {`{"type":"enum","name":"e","symbols":["B","A"],"default":"A"}`, "enum e B A =A", 0}, {`{"type":"enum","name":"e","symbols":["B","A"]}`, "enum e B A", 0}, {`{"type":"record","name":"r","fields":[]}`, "record r", 0},
		// Records that are parts of themselves.
		{`{"type":"record","name":"r","namespace":"n","fields":[{"name":"f","type":["null","r"]}]}`, "record n.r f:1; union 2 0; null", 0},
		{`{"type":"record","name":"tree","fields":[{"name":"left","type":["null","tree"],"default":null},{"name":"right","type":["null","tree"],"default":null},{"name":"more","type":{"type":"map","values":"tree"},"default":{}}]}`, `record tree left:1=null right:3=null more:5={}; union 2 0; null; union 4 0; null; map 0`, 0},
		{fields(record("s", `["null","r"]`, arrays(1, `"s"`)), `["s","r"]`), "record r f0:1 f1:5; record s f0:2 f1:4; union 3 0; null; array 1; union 1 0", 0},
		// Names in their spaces, and aliases.
		{`{"type":"record","name":"a.b.r","aliases":["o","p.q"],"fields":[{"name":"f","aliases":["g","h"],"type":{"type":"enum","name":"e","aliases":["d"],"symbols":["A"]}},{"name":"i","type":{"type":"fixed","name":"x","namespace":"","size":1,"aliases":["y","z.y"]}},{"name":"j","type":"e"},{"name":"k","type":"a.b.e"}]}`, "record a.b.r~a.b.o~p.q f~g~h:1 i:2 j:1 k:1; enum a.b.e~a.b.d A; fixed x~y~z.y 1", 0},
		// Defaults, as they were written.
		{with(`"null"`, `null`, `"boolean"`, `true`, `"int"`, `-7`, `"long"`, `0`, `"float"`, `1`, `"double"`, `2`, `"bytes"`, `"\u00ff\u0000"`, `"string"`, `"\u00ff\n"`), "record r f0:1=null f1:2=true f2:3=-7 f3:4=0 f4:5=1 f5:6=2 f6:7=\"ÿ\\u0000\" f7:8=\"ÿ\\n\"; null; boolean; int; long; float; double; bytes; string", 0},
		{with(arrays(1, maps(1, `["int","null"]`)), `[{"b":1,"a":2}, {}]`, inner("o", `"int"`, `1`, `"int"`, ``), `{"none":[], "f1":3}`), `record r f0:1=[{"b":1,"a":2},{}] f1:6={"none":[],"f1":3}; array 2; map 3; union 4 5; int; null; record o f0:7=1 f1:8; int; int`, 0},
		// What says nothing.
		{`{"type":"record","doc":"d","name":"r","order":1,"fields":[{"name":"f","type":"int","order":"ignore","doc":[1,{"a":null}]}]}`, "record r f:1; int", 0},
	})
}

// P14.1, rule 4: what is loaded stays as it is, whatever becomes of the bytes; and the bytes, whatever becomes of it.
func TestMemory(t *testing.T) {
	for _, text := range []string{`"int"`, `{"type":"enum","name":"n.e","aliases":["a"],"symbols":["A","B"],"default":"B"}`, rich} {
		b := []byte(text)
		s, e := load.Text(b)
		was := twin(s)
		for at := range b {
			b[at] = 'x'
		}
		if e != api.OK || !alike(s, was) || !alike(s, first(load.Text([]byte(text)))) {
			t.Errorf("%s became %s, %d", line(was), line(s), e)
		}
		b = []byte(text)
		other, _ := load.Text(b)
		spoil(reflect.ValueOf(&other).Elem())
		again, _ := load.Text(b)
		if string(b) != text || !alike(s, was) || !alike(again, was) {
			t.Errorf("what was loaded was spoiled, and so was %s, or %s", b, line(s))
		}
	}
}

func first(s api.Schema, _ api.Errno) api.Schema { return s }

// spoil changes all that stands in a thing, its lists' spare room too.
func spoil(v reflect.Value) {
	switch v.Kind() {
	case reflect.Struct:
		for at := range v.NumField() {
			spoil(v.Field(at))
		}
	case reflect.Slice:
		for at := range v.Cap() {
			spoil(v.Slice(0, v.Cap()).Index(at))
		}
	case reflect.Int, reflect.Int64:
		v.SetInt(v.Int() ^ 5)
	case reflect.String:
		v.SetString(v.String() + "spoiled")
	case reflect.Bool:
		v.SetBool(!v.Bool())
	}
}

// rich is the text of a schema that has each kind of node, names in spaces, aliases and defaults.
const rich = `{"type":"record","name":"r","namespace":"n","aliases":["old","m.older"],"fields":[
	{"name":"a","type":"null","default":null},{"name":"b","type":"boolean","aliases":["bb"],"default":true},{"name":"c","type":"int","default":7},
	{"name":"d","type":{"type":"array","items":{"type":"map","values":["string","long"]}},"default":[{"k":"v"},{}]},
	{"name":"e","type":{"type":"enum","name":"e","symbols":["A","B"],"default":"B"},"default":"A"},
	{"name":"f","type":{"type":"fixed","name":"o.x","size":2,"aliases":["y"]},"default":"ab"},
	{"name":"g","type":["null","r",{"type":"record","name":"s","fields":[{"name":"h","type":"double","default":3},{"name":"i","type":"bytes"},{"name":"j","type":"float"}]}],"default":null},
	{"name":"k","type":"e"},{"name":"l","type":"s","default":{"i":"\u00e4","j":1}}]}`
