package build_test

import (
	"fmt"
	"strings"
	"testing"

	"avocet/api"
)

// The chapter's own example.
func TestExample(t *testing.T) {
	checkRows(t, []row{
		{`{"type":"record","name":"r","namespace":"n","fields":[{"name":"f","type":["null","r"]}]}`, "record n.r f:1; union 2 0; null", 0},
	})
}

// P12.1: trees that may not be, alone and at each place of others, ahead of all else that is wrong.
func TestTreesThatMayNotBe(t *testing.T) {
	deep := text("int")
	for range 33 {
		deep = list(deep)
	}
	for _, j := range []api.Json{
		{}, {Kind: -1}, {Kind: 7}, {Kind: 1 << 32}, {Kind: 2, Int: 2}, {Kind: 2, Int: -1}, {Kind: 1, Int: 1}, {Kind: 1, Text: "null"}, {Kind: 3, Text: "int"},
		{Kind: 4, Text: "int", Int: 1}, {Kind: 4, Text: "int\xff"}, {Kind: 4, Text: "\xed\xa0\x80"}, {Kind: 4, Text: "int", Items: []api.Json{{Kind: 1}}}, {Kind: 4, Text: "int", Keys: []string{"a"}},
		{Kind: 5, Int: 1}, {Kind: 5, Text: "a"}, {Kind: 5, Keys: []string{"type"}}, {Kind: 5, Items: []api.Json{{}}}, {Kind: 5, Items: []api.Json{text("int")}, Keys: []string{"type"}},
		{Kind: 6, Items: []api.Json{text("int")}}, {Kind: 6, Keys: []string{"type"}}, {Kind: 6, Items: []api.Json{text("int"), text("int")}, Keys: []string{"type", "type"}},
		{Kind: 6, Items: []api.Json{text("int")}, Keys: []string{"type"}, Int: 1}, {Kind: 6, Items: []api.Json{text("int")}, Keys: []string{"type"}, Text: "int"},
		{Kind: 6, Items: []api.Json{text("int"), {}}, Keys: []string{"type", "doc"}}, {Kind: 6, Items: []api.Json{text("int"), text("a")}, Keys: []string{"type", "\xff"}},
		{Kind: 6, Items: []api.Json{text("int"), text("\xff")}, Keys: []string{"type", "doc"}}, deep,
	} {
		checkRefused(t, j, 2)
		checkRefused(t, list(text("int"), j), 2)
		checkRefused(t, list(text("1"), j), 2)
		checkRefused(t, list(j, text("1")), 2)
		for _, key := range []string{"doc", "items", "default", "aliases", "a"} {
			checkRefused(t, with(tree(`{"type":"int"}`), key, j), 2)
			checkRefused(t, with(tree(`{"type":7}`), key, j), 2)
			checkRefused(t, with(tree(`{"type":"array","items":"int"}`), key, j), 2)
			checkRefused(t, record("r", with(tree(`{"type":"nothing"}`), key, j)), 2)
		}
		field := with(tree(`{"name":"f","type":"int"}`), "default", j)
		checkRefused(t, with(record("r"), "fields", list(field)), 2)
		checkRefused(t, with(record("1"), "fields", list(field)), 2)
	}
}

// P12.1, 4: trees that are neither texts nor lists nor objects, where a node is asked for.
func TestOtherTrees(t *testing.T) {
	for _, other := range []string{"null", "true", "false", "0", "7", "-1"} {
		j := tree(other)
		for _, j := range []api.Json{
			j, list(j), list(text("int"), j), with(tree(`{"type":"array"}`), "items", j), with(tree(`{"type":"map"}`), "values", j),
			record("r", j), record("r", text("int"), j), record("r", list(text("null"), record("s", j))), with(tree(`{}`), "type", j),
		} {
			checkRefused(t, j, 30)
		}
	}
}

// P12.1, 1: texts that are words of kinds, or of none.
func TestWords(t *testing.T) {
	for at, word := range words {
		if at >= 8 {
			checkRefused(t, text(word), 33)
			checkRefused(t, list(text(word)), 33)
			checkRefused(t, record("n.r", text(word)), 33)
			continue
		}
		checkKind(t, text(word), at+1)
		checkKind(t, with(tree(`{}`), "type", text(word)), at+1)
		checkKind(t, with(tree(`{"name":7,"namespace":7,"items":7,"aliases":7,"fields":7}`), "type", text(word)), at+1)
		// Also where a node of that name is there.
		named := with(tree(`{"type":"fixed","namespace":"n","size":1}`), "name", text(word))
		s, _ := check(t, record("n.r", named, text(word), text("n."+word)))
		if want := fmt.Sprintf("record n.r f0:1 f1:2 f2:1; fixed n.%s 1; %s", word, word); line(s) != want {
			t.Errorf("%s, not %s", line(s), want)
		}
		for _, other := range []string{strings.ToUpper(word), strings.ToUpper(word[:1]) + word[1:], word + "s", word[1:], word[:len(word)-1], "_" + word} {
			checkRefused(t, text(other), 33)
		}
		for _, other := range []string{word + " ", " " + word, word + "\x00", word + "\n", word + ".", "." + word, word + "?", `"` + word + `"`} {
			checkRefused(t, text(other), 31)
		}
	}
	checkRefused(t, text("union"), 33)
	// The other kinds' words are names like any other within a space.
	for _, word := range words[8:] {
		named := with(tree(`{"type":"fixed","namespace":"n","size":1}`), "name", text(word))
		s, _ := check(t, record("n.r", named, text(word), text("n."+word)))
		if want := fmt.Sprintf("record n.r f0:1 f1:1 f2:1; fixed n.%s 1", word); line(s) != want {
			t.Errorf("%s, not %s", line(s), want)
		}
	}
}

// checkKind holds a tree against the schema of a node of a kind, alone and where others have it.
func checkKind(t *testing.T, j api.Json, kind int) {
	t.Helper()
	for n, j := range []api.Json{j, list(j), with(tree(`{"type":"array"}`), "items", j), with(tree(`{"type":"map"}`), "values", j), record("r", j), record("n.r", j)} {
		s, e := check(t, j)
		last := len(s.Nodes) - 1
		if e != api.OK || last != min(n, 1) || s.Nodes[last].Kind != kind {
			t.Errorf("Build(%s) = %s, %d", said(j), line(s), e)
		}
	}
}

// P12.1, 1: texts that are names of nodes.
func TestNamesOfNodes(t *testing.T) {
	checkRows(t, []row{
		// No names, and names of nothing.
		{`""`, "", 31}, {`"1"`, "", 31}, {`"a b"`, "", 31}, {`"a."`, "", 31}, {`".a"`, "", 31}, {`"a..b"`, "", 31}, {`"."`, "", 31}, {`"a-b"`, "", 31}, {`"\u00e4"`, "", 31}, {`"a.1"`, "", 31}, {`"1.a"`, "", 31},
		{`"a"`, "", 33}, {`"a.b"`, "", 33}, {`"_"`, "", 33}, {`"A9"`, "", 33}, {`"null.a"`, "", 33}, {`"n.int"`, "", 33},
		{`{"type":""}`, "", 31}, {`{"type":"1"}`, "", 31}, {`{"type":"a b"}`, "", 31}, {`{"type":"a"}`, "", 33}, {`{"type":"a.b"}`, "", 33}, {`{"type":"union"}`, "", 33},
		// A node that is just being made, and ones that were made already.
		{`{"type":"record","name":"r","fields":[{"name":"f","type":["null","r"]},{"name":"g","type":["r"]}]}`, "record r f:1 g:3; union 2 0; null; union 0", 0},
		{`[{"type":"enum","name":"e","symbols":["A"]},{"type":"array","items":"e"}]`, "union 1 2; enum e A; array 1", 0},
		{`[{"type":"fixed","name":"x","size":0},{"type":"map","values":{"type":"x"}}]`, "union 1 2; fixed x 0; map 1", 0},
		{`[{"type":"record","name":"r","fields":[]},{"type":"map","values":"r"}]`, "union 1 2; record r; map 1", 0},
		// What an object has beside a name of a node says nothing.
		{`{"type":"record","name":"r","fields":[{"name":"f","type":{"type":"array","items":{"type":"r","name":"s","fields":7,"namespace":7}}}]}`, "record r f:1; array 0", 0},
		// Ones made only later, or never.
		{`["e",{"type":"enum","name":"e","symbols":["A"]}]`, "", 33},
		{`[{"type":"array","items":"e"},{"type":"enum","name":"e","symbols":["A"]}]`, "", 33},
		{`{"type":"record","name":"r","fields":[{"name":"f","type":"s"},{"name":"g","type":{"type":"record","name":"s","fields":[]}}]}`, "", 33},
		{`{"type":"record","name":"r","fields":[{"name":"f","type":{"type":"record","name":"s","fields":[{"name":"f","type":"g"}]}}]}`, "", 33},
		// With and without a space, in a space and outside of it.
		{`[{"type":"fixed","name":"n.x","size":1},{"type":"map","values":"n.x"}]`, "union 1 2; fixed n.x 1; map 1", 0},
		{`[{"type":"fixed","name":"n.x","size":1},{"type":"map","values":"x"}]`, "", 33},
		{`[{"type":"fixed","name":"n.x","size":1},{"type":"record","name":"n.r","fields":[{"name":"f","type":"x"},{"name":"g","type":"n.x"}]}]`, "union 1 2; fixed n.x 1; record n.r f:1 g:1", 0},
		{`[{"type":"fixed","name":"x","size":1},{"type":"record","name":"n.r","fields":[{"name":"f","type":"x"}]}]`, "", 33},
		{`[{"type":"fixed","name":"x","size":1},{"type":"record","name":"n.r","fields":[{"name":"f","type":{"type":"record","name":"s","namespace":"","fields":[{"name":"f","type":"x"}]}}]}]`, "union 1 2; fixed x 1; record n.r f:3; record s f:1", 0},
		{`{"type":"record","name":"n.r","fields":[{"name":"f","type":["null","r","n.s"]}]}`, "", 33},
		{`{"type":"record","name":"n.r","fields":[{"name":"f","type":["null","n.r"]}]}`, "record n.r f:1; union 2 0; null", 0},
		{`{"type":"record","name":"n.r","fields":[{"name":"f","type":["null","m.r"]}]}`, "", 33},
		{`{"type":"record","name":"r","fields":[{"name":"f","type":["null","n.r"]}]}`, "", 33},
		{`{"type":"record","name":"R","fields":[{"name":"f","type":["null","r"]}]}`, "", 33},
		// The space goes on through lists, arrays, maps and unions, and ends behind its record.
		{`{"type":"record","name":"a.b.r","fields":[{"name":"f","type":{"type":"array","items":{"type":"map","values":["null",{"type":"r"}]}}}]}`, "record a.b.r f:1; array 2; map 3; union 4 0; null", 0},
		{`[{"type":"record","name":"n.r","fields":[{"name":"f","type":{"type":"fixed","name":"x","size":1}}]},{"type":"map","values":"x"}]`, "", 33},
		{`[{"type":"record","name":"n.r","fields":[{"name":"f","type":{"type":"fixed","name":"x","size":1}}]},{"type":"map","values":"n.x"}]`, "union 1 3; record n.r f:2; fixed n.x 1; map 2", 0},
		{`{"type":"record","name":"n.r","fields":[{"name":"f","type":{"type":"record","name":"m.s","fields":[{"name":"f","type":["null","s"]}]}},{"name":"g","type":["null","r"]}]}`, "record n.r f:1 g:4; record m.s f:2; union 3 1; null; union 5 0; null", 0},
		{`{"type":"record","name":"n.r","fields":[{"name":"f","type":{"type":"record","name":"m.s","fields":[]}},{"name":"g","type":"s"}]}`, "", 33},
		{`{"type":"record","name":"n.r","fields":[{"name":"f","type":{"type":"record","name":"m.s","fields":[{"name":"f","type":["r"]}]}}]}`, "", 33},
		// An array's own namespace is none, and a fixed's is just its own.
		{`{"type":"array","namespace":"n","items":{"type":"record","name":"r","fields":[]}}`, "array 1; record r", 0},
		{`[{"type":"fixed","name":"x","namespace":"n","size":1},{"type":"enum","name":"e","symbols":["A"]}]`, "union 1 2; fixed n.x 1; enum e A", 0},
		// Aliases and fields are no names of nodes.
		{`{"type":"record","name":"r","aliases":["s"],"fields":[{"name":"f","aliases":["g"],"type":["null","s"]}]}`, "", 33},
		{`{"type":"record","name":"r","fields":[{"name":"f","type":"int"},{"name":"g","type":"f"}]}`, "", 33},
		// The weight ends it, when all else is said.
		{`{"type":"record","name":"r","fields":[{"name":"f","type":"r"}]}`, "", 3},
	})
	for _, size := range []int{99, 100, 101} {
		e := api.Errno(33)
		if size > 100 {
			e = 31
		}
		checkRefused(t, text(a(size)), e)
		checkRefused(t, text("n."+a(size-2)), e)
		checkRefused(t, record("n.r", text(a(size-2))), e)
		checkRefused(t, record("n.r", text("o."+a(size-2))), e)
	}
	checkRefused(t, record(a(49)+".r", text(a(50))), 33)
	checkRefused(t, record(a(49)+".r", text(a(51))), 31)
}

// P12.1, 2: unions.
func TestUnions(t *testing.T) {
	checkRows(t, []row{
		{`[]`, "", 34}, {`["null"]`, "union 1; null", 0}, {`["null","int"]`, "union 1 2; null; int", 0},
		{`["null","boolean","int","long","float","double","bytes","string",{"type":"array","items":"int"},{"type":"map","values":"int"}]`, "union 1 2 3 4 5 6 7 8 9 11; null; boolean; int; long; float; double; bytes; string; array 10; int; map 12; int", 0},
		{`["string","bytes","double","float","long","int","boolean","null"]`, "union 1 2 3 4 5 6 7 8; string; bytes; double; float; long; int; boolean; null", 0},
		// A list in a list.
		{`[["null"]]`, "", 34}, {`["int",["null"]]`, "", 34}, {`[["null"],"int"]`, "", 34}, {`[[]]`, "", 34},
		{`[{"type":["null"]}]`, "", 30},
		{`[{"type":"array","items":["null"]},"null"]`, "union 1 4; array 2; union 3; null; null", 0},
		// Twice the same, and two of one kind without a name.
		{`["null","null"]`, "", 34}, {`["int","null","int"]`, "", 34}, {`["null","int",{"type":"int"}]`, "", 34}, {`["null","int","string","string"]`, "", 34},
		{`[{"type":"array","items":"int"},{"type":"array","items":"long"}]`, "", 34}, {`[{"type":"map","values":"int"},"int",{"type":"map","values":"long"}]`, "", 34},
		{`[{"type":"fixed","name":"x","size":1},"x"]`, "", 34}, {`[{"type":"enum","name":"x","symbols":["A"]},"null","x"]`, "", 34}, {`[{"type":"record","name":"x","fields":[]},{"type":"x"}]`, "", 34},
		{`{"type":"record","name":"n.r","fields":[{"name":"f","type":["null","r","n.r"]}]}`, "", 34},
		// Of unlike names.
		{`[{"type":"record","name":"x","fields":[]},{"type":"record","name":"y","fields":[]}]`, "union 1 2; record x; record y", 0},
		{`[{"type":"record","name":"x","fields":[]},{"type":"record","name":"n.x","fields":[]},"null"]`, "union 1 2 3; record x; record n.x; null", 0},
		{`[{"type":"enum","name":"x","symbols":["A"]},{"type":"enum","name":"y","symbols":["A"]}]`, "union 1 2; enum x A; enum y A", 0},
		{`[{"type":"fixed","name":"x","size":1},{"type":"fixed","name":"y","size":1},{"type":"enum","name":"z","symbols":["A"]},{"type":"record","name":"w","fields":[]}]`, "union 1 2 3 4; fixed x 1; fixed y 1; enum z A; record w", 0},
		{`[{"type":"fixed","name":"x","size":1},{"type":"fixed","name":"x","size":1}]`, "", 32},
		// A branch that is made within another one.
		{`[{"type":"record","name":"r","fields":[{"name":"f","type":{"type":"fixed","name":"x","size":1}}]},"x"]`, "union 1 2; record r f:2; fixed x 1", 0},
		{`[{"type":"array","items":"int"},"int"]`, "union 1 3; array 2; int; int", 0},
		{`[{"type":"array","items":{"type":"fixed","name":"x","size":1}},"x",{"type":"map","values":"x"}]`, "union 1 2 3; array 2; fixed x 1; map 2", 0},
		// What a branch is refused with is told ahead of what a union may not have.
		{`[["nothing"]]`, "", 33}, {`["int",["1"]]`, "", 31}, {`[[7]]`, "", 30}, {`[{"type":"array","items":"int"},{"type":"array","items":"nothing"}]`, "", 33},
		{`["int","int","nothing"]`, "", 34}, {`["int","nothing","int"]`, "", 33}, {`["int",["int"],"nothing"]`, "", 34}, {`["1","nothing"]`, "", 31}, {`["nothing","1"]`, "", 33},
	})
	for _, size := range []int{1, 9, 10, 11, 12, 300} {
		var of []api.Json
		for n := range size {
			of = append(of, with(tree(`{"type":"fixed","size":1}`), "name", text(fmt.Sprint("x", n))))
		}
		if _, e := check(t, list(of...)); e != api.OK && size <= 10 || e != 34 && size > 10 {
			t.Errorf("a union of %d is told %d", size, e)
		}
		if size > 10 {
			// Told ahead of what its items are.
			checkRefused(t, list(times(size, tree("7"))...), 34)
			checkRefused(t, list(times(size, text("1"))...), 34)
		}
	}
}

// P12.1, 3: what objects have as their type.
func TestTypes(t *testing.T) {
	checkRows(t, []row{
		{`{}`, "", 30}, {`{"Type":"int"}`, "", 30}, {`{"name":"int"}`, "", 30}, {`{"type":null}`, "", 30}, {`{"type":true}`, "", 30}, {`{"type":7}`, "", 30}, {`{"type":["int"]}`, "", 30}, {`{"type":[]}`, "", 30},
		{`{"type":{}}`, "", 30}, {`{"type":{"type":"int"}}`, "", 30}, {`{"type":{"type":"record","name":"r","fields":[]}}`, "", 30}, {`{"items":"int"}`, "", 30},
		{`{"name":"r","fields":[]}`, "", 30}, {`{"name":"r","size":1}`, "", 30},
		{`{"type":"int"}`, "int", 0}, {`{"type":"int","logicalType":"date"}`, "int", 0}, {`{"type":"string","doc":"record","items":"nothing"}`, "string", 0},
		{`{"type":"Record","name":"r","fields":[]}`, "", 33}, {`{"type":"error","name":"r","fields":[]}`, "", 33},
		{`{"type":"array","items":"int"}`, "array 1; int", 0}, {`{"type":"array"}`, "", 30}, {`{"type":"array","values":"int"}`, "", 30}, {`{"type":"array","items":null}`, "", 30}, {`{"type":"array","items":["null","int"]}`, "array 1; union 2 3; null; int", 0},
		{`{"type":"array","Items":"int"}`, "", 30}, {`{"type":"array","items":[]}`, "", 34}, {`{"type":"array","items":{}}`, "", 30}, {`{"type":"array","items":"int","values":"nothing","name":"1","namespace":7,"aliases":7}`, "array 1; int", 0},
		{`{"type":"map","values":"int"}`, "map 1; int", 0}, {`{"type":"map"}`, "", 30}, {`{"type":"map","items":"int"}`, "", 30}, {`{"type":"map","values":7}`, "", 30}, {`{"type":"map","values":{"type":"map","values":{"type":"array","items":"null"}}}`, "map 1; map 2; array 3; null", 0},
		{`{"type":"map","values":"int","items":"nothing","name":"1","namespace":7,"aliases":7}`, "map 1; int", 0}, {`{"type":"map","values":"map"}`, "", 33}, {`{"type":"array","items":"array"}`, "", 33},
	})
	// Trees as deep as they may be.
	for _, word := range []string{`{"type":"array","items":%s}`, `{"type":"map","values":%s}`} {
		deep := `"int"`
		for range 32 {
			deep = fmt.Sprintf(word, deep)
		}
		if s, e := check(t, tree(deep)); e != api.OK || len(s.Nodes) != 33 {
			t.Errorf("Build(%s) = %s, %d", deep, line(s), e)
		}
		checkRefused(t, tree(strings.Replace(deep, `"int"`, `"nothing"`, 1)), 33)
	}
}

// P12.1: names, namespaces, and spaces around, of each kind that has a name.
func TestNames(t *testing.T) {
	// What hangs on no space around: its name, or why it is refused.
	rows := []nameRow{
		{`"name":"n.x"`, "n.x", 0}, {`"name":"x","namespace":"n"`, "n.x", 0}, {`"name":"x","namespace":"n.m"`, "n.m.x", 0}, {`"name":"x","namespace":""`, "x", 0}, {`"namespace":"","name":"x"`, "x", 0},
		// A name's own space goes ahead of a namespace, whatever that is, if it is a text.
		{`"name":"m.x","namespace":"n"`, "m.x", 0}, {`"name":"m.x","namespace":""`, "m.x", 0}, {`"name":"m.x","namespace":"1"`, "m.x", 0}, {`"name":"m.x","namespace":7`, "", 30},
		{`"doc":""`, "", 30}, {`"name":null`, "", 30}, {`"name":7`, "", 30}, {`"name":["x"]`, "", 30}, {`"name":{"x":"x"}`, "", 30}, {`"Name":"x"`, "", 30}, {`"namespace":"n"`, "", 30},
		{`"name":"x","namespace":null`, "", 30}, {`"name":"x","namespace":7`, "", 30}, {`"name":"x","namespace":["n"]`, "", 30}, {`"name":"x","namespace":{}`, "", 30}, {`"name":"1","namespace":false`, "", 30}, {`"name":true,"namespace":"1"`, "", 30},
		{`"name":""`, "", 31}, {`"name":"1"`, "", 31}, {`"name":"x y"`, "", 31}, {`"name":"x."`, "", 31}, {`"name":".x"`, "", 31}, {`"name":"x..y"`, "", 31}, {`"name":"\u00e4"`, "", 31}, {`"name":"","namespace":"n"`, "", 31},
		{`"name":"x","namespace":"1"`, "", 31}, {`"name":"x","namespace":"n."`, "", 31}, {`"name":"x","namespace":".n"`, "", 31}, {`"name":"x","namespace":" "`, "", 31}, {`"name":"x","namespace":"."`, "", 31},
		{`"name":"fixed","namespace":""`, "", 31}, {`"name":"string","namespace":"n"`, "n.string", 0}, {`"name":"n.map"`, "n.map", 0}, {`"name":"int.int"`, "int.int", 0},
		{`"name":"k"`, "", 32}, {`"name":"k","namespace":"n"`, "n.k", 0}, {`"name":"k","namespace":""`, "", 32}, {`"name":"o.k"`, "", 32}, {`"name":"k","namespace":"o"`, "", 32}, {`"name":"o.k","namespace":""`, "", 32}, {`"name":"K","namespace":""`, "K", 0},
	}
	checkNames(t, false, rows)
	checkNames(t, true, rows)
	checkNames(t, false, []nameRow{{`"name":"x"`, "x", 0}, {`"name":"int"`, "", 31}, {`"name":"record"`, "", 31}, {`"name":"union"`, "union", 0}, {`"name":"Int"`, "Int", 0}, {`"name":"l"`, "l", 0}, {`"name":"root"`, "root", 0}})
	checkNames(t, true, []nameRow{{`"name":"x"`, "o.x", 0}, {`"name":"int"`, "o.int", 0}, {`"name":"record"`, "o.record", 0}, {`"name":"union"`, "o.union", 0}, {`"name":"l"`, "o.l", 0}, {`"name":"root"`, "", 32}, {`"name":"root","namespace":""`, "root", 0}})
}

// nameRow is what an object has of names, and its name, or why it is refused.
type nameRow struct {
	text string
	name string
	e    api.Errno
}

// checkNames holds rows, of each kind that has a name, behind nodes k and o.k; inside tells that they are in the space o, of a record o.root.
func checkNames(t *testing.T, inside bool, rows []nameRow) {
	t.Helper()
	known, far := tree(`{"type":"fixed","name":"k","namespace":"","size":1}`), tree(`{"type":"fixed","name":"o.k","size":1}`)
	for _, of := range [][]string{{"record", `"fields":[]`, ""}, {"enum", `"symbols":["A"]`, " A"}, {"fixed", `"size":3`, " 3"}} {
		for _, r := range rows {
			j := tree(`{"type":"` + of[0] + `",` + r.text + `,` + of[1] + `}`)
			around, ahead := list(known, far, j), "union 1 2 3; "
			if inside {
				around, ahead = record("o.root", known, far, j), "record o.root f0:1 f1:2 f2:3; "
			}
			want := ""
			if r.e == 0 {
				want = ahead + "fixed k 1; fixed o.k 1; " + of[0] + " " + r.name + of[2]
			}
			if s, e := check(t, around); e != r.e || line(s) != want {
				t.Errorf("Build(%s) = %s, %d, not %s, %d", said(around), line(s), e, want, r.e)
			}
		}
	}
}

// P12.1: each kind's word as a name, outside of spaces and in one.
func TestKindsAsNames(t *testing.T) {
	for _, word := range words {
		for _, of := range []string{`{"type":"record","fields":[]}`, `{"type":"enum","symbols":["A"]}`, `{"type":"fixed","size":3}`} {
			j := with(tree(of), "name", text(word))
			checkRefused(t, j, 31)
			checkRefused(t, with(j, "namespace", text("")), 31)
			checkRefused(t, record("r", j), 31)
			checkRefused(t, record("n.r", with(j, "namespace", text(""))), 31)
			for _, j := range []api.Json{record("n.r", j), record("n.r", with(j, "name", text("n."+word))), record("r", with(j, "namespace", text("n"))), record("m.r", with(j, "namespace", text("n")))} {
				if s, e := check(t, j); e != api.OK || s.Nodes[1].Name != "n."+word {
					t.Errorf("Build(%s) = %s, %d", said(j), line(s), e)
				}
			}
		}
	}
}

// P12.1: names that are too long, with the spaces that they get.
func TestLongNames(t *testing.T) {
	checkLong := func(j api.Json, name string) {
		t.Helper()
		s, e := check(t, j)
		if e == api.OK && s.Nodes[len(s.Nodes)-1].Name != name || (e == api.OK) != (len(name) <= 100) || e != api.OK && e != 31 {
			t.Errorf("Build(%s), of a name of %d bytes, = %s, %d", said(j), len(name), line(s), e)
		}
	}
	fixed := tree(`{"type":"fixed","size":3}`)
	for _, size := range []int{1, 97, 98, 99, 100, 101, 102, 1000} {
		checkLong(with(fixed, "name", text(a(size))), a(size))
		checkLong(with(with(fixed, "name", text(a(size))), "namespace", text("n")), "n."+a(size))
		checkLong(with(with(fixed, "name", text("x")), "namespace", text(a(size))), a(size)+".x")
		checkLong(with(with(fixed, "name", text("n.x")), "namespace", text(a(size))), "n.x")
		checkLong(record("n.r", with(fixed, "name", text(a(size)))), "n."+a(size))
		checkLong(record("n.r", with(fixed, "name", text("m."+a(size)))), "m."+a(size))
	}
}

// P12.1: other names, of nodes and of fields.
func TestAliases(t *testing.T) {
	for _, of := range [][]string{{"record", `"fields":[]`, ""}, {"enum", `"symbols":["A"]`, " A"}, {"fixed", `"size":3`, " 3"}} {
		for _, r := range []row{
			{`"name":"x"`, "x", 0}, {`"name":"x","aliases":[]`, "x", 0}, {`"name":"x","aliases":["a"]`, "x~a", 0}, {`"name":"x","aliases":["b","n.a","b","x","int"]`, "x~b~n.a~b~x~int", 0},
			{`"name":"n.x","aliases":["a","m.a","n.m.a"]`, "n.x~n.a~m.a~n.m.a", 0}, {`"name":"x","namespace":"n","aliases":["a"]`, "n.x~n.a", 0}, {`"name":"m.x","namespace":"n","aliases":["a"]`, "m.x~m.a", 0}, {`"name":"x","namespace":"","aliases":["a"]`, "x~a", 0},
			{`"name":"n.m.x","aliases":["a"]`, "n.m.x~n.m.a", 0}, {`"name":"x","Aliases":7`, "x", 0}, {`"name":"x","alias":["1"]`, "x", 0},
			{`"name":"x","aliases":null`, "", 30}, {`"name":"x","aliases":"a"`, "", 30}, {`"name":"x","aliases":{}`, "", 30}, {`"name":"x","aliases":{"a":"b"}`, "", 30}, {`"name":"x","aliases":false`, "", 30}, {`"name":"x","aliases":0`, "", 30},
			{`"name":"x","aliases":[null]`, "", 30}, {`"name":"x","aliases":["a",1]`, "", 30}, {`"name":"x","aliases":[["a"],"b"]`, "", 30}, {`"name":"x","aliases":["1",2]`, "", 30}, {`"name":"x","aliases":[2,"1"]`, "", 30},
			{`"name":"x","aliases":["1"]`, "", 31}, {`"name":"x","aliases":["a",""]`, "", 31}, {`"name":"x","aliases":["a","b."]`, "", 31}, {`"name":"n.x","aliases":["a b","a"]`, "", 31}, {`"name":"n.x","aliases":[".a"]`, "", 31},
		} {
			j := tree(`{"type":"` + of[0] + `",` + r.text + `,` + of[1] + `}`)
			want := ""
			if r.e == 0 {
				want = of[0] + " " + r.line + of[2]
			}
			if s, e := check(t, j); e != r.e || line(s) != want {
				t.Errorf("Build(%s) = %s, %d, not %s, %d", said(j), line(s), e, want, r.e)
			}
		}
		// The name's own space, not the one around.
		base := tree(`{"type":"` + of[0] + `","aliases":["a","p.a"],` + of[1] + `}`)
		for _, r := range [][]string{{`{"name":"x"}`, "o.x~o.a~p.a"}, {`{"name":"n.x"}`, "n.x~n.a~p.a"}, {`{"name":"x","namespace":"n"}`, "n.x~n.a~p.a"}, {`{"name":"x","namespace":""}`, "x~a~p.a"}} {
			j := base
			for key, item := range parts(tree(r[0])) {
				j = with(j, key, item)
			}
			s, _ := check(t, record("o.r", j))
			if want := "record o.r f0:1; " + of[0] + " " + r[1] + of[2]; line(s) != want {
				t.Errorf("Build(%s) in the space o = %s, not %s", said(j), line(s), want)
			}
		}
		checkManyAliases(t, func(aliases api.Json) api.Json { return with(with(base, "name", text("x")), "aliases", aliases) })
		// Sums that are too long.
		for _, size := range []int{97, 98, 99, 100, 101} {
			for _, r := range []struct{ name, alias, made string }{{"x", a(size), a(size)}, {"n.x", a(size), "n." + a(size)}, {"n.x", "m." + a(size), "m." + a(size)}, {a(50) + ".x", a(size - 50), a(50) + "." + a(size-50)}} {
				j := with(with(base, "name", text(r.name)), "aliases", list(text("b.c"), text(r.alias)))
				s, e := check(t, j)
				if long := len(r.made) > 100; long && e != 31 || !long && (e != api.OK || s.Nodes[0].Aliases[1] != r.made) {
					t.Errorf("Build(%s) = %s, %d", said(j), line(s), e)
				}
			}
		}
	}
	checkManyAliases(t, func(aliases api.Json) api.Json {
		return with(tree(`{"type":"record","name":"r"}`), "fields", list(with(tree(`{"name":"f","type":"int"}`), "aliases", aliases)))
	})
}

// checkManyAliases holds just as many other names as may be, and more.
func checkManyAliases(t *testing.T, of func(aliases api.Json) api.Json) {
	t.Helper()
	for _, size := range []int{1, 39, 40, 41, 42, 500} {
		if _, e := check(t, of(list(named("a", size)...))); e != 0 && size <= 40 || e != 3 && size > 40 {
			t.Errorf("%d aliases are told %d", size, e)
		}
		check(t, of(list(times(size, text("a"))...)))
		want := api.Errno(31)
		if size > 40 {
			want = 3
		}
		checkRefused(t, of(list(append(named("a", size-1), text("1"))...)), want)
		checkRefused(t, of(list(append(named("1", 1), named("a", size-1)...)...)), want)
		checkRefused(t, of(list(append(named("a", size-1), number(1))...)), 30)
		checkRefused(t, of(list(append(named("1", size-1), tree("null"))...)), 30)
	}
}

// P12.1: records' fields.
func TestFields(t *testing.T) {
	for _, r := range []row{
		{`[]`, "record n.r", 0}, {`[{"name":"f","type":"int"}]`, "record n.r f:1; int", 0}, {`[{"type":"int","name":"f"},{"name":"_G9","type":"int"}]`, "record n.r f:1 _G9:2; int; int", 0},
		{`null`, "", 30}, {`"f"`, "", 30}, {`7`, "", 30}, {`true`, "", 30}, {`{}`, "", 30}, {`{"name":"f","type":"int"}`, "", 30},
		// No objects, and such without a name.
		{`[null]`, "", 30}, {`["f"]`, "", 30}, {`["int"]`, "", 30}, {`[7]`, "", 30}, {`[[]]`, "", 30}, {`[["name","type"]]`, "", 30}, {`[{}]`, "", 30}, {`[{"type":"int"}]`, "", 30}, {`[{"name":"f","type":"int"},{"type":"int"}]`, "", 30}, {`[{"name":"f","type":"int"},7]`, "", 30},
		{`[{"name":null,"type":"int"}]`, "", 30}, {`[{"name":7,"type":"int"}]`, "", 30}, {`[{"name":["f"],"type":"int"}]`, "", 30}, {`[{"name":{},"type":"int"}]`, "", 30}, {`[{"Name":"f","type":"int"}]`, "", 30},
		// No simple names.
		{`[{"name":"","type":"int"}]`, "", 31}, {`[{"name":"1","type":"int"}]`, "", 31}, {`[{"name":"a.b","type":"int"}]`, "", 31}, {`[{"name":"n.f","type":"int"}]`, "", 31}, {`[{"name":"a b","type":"int"}]`, "", 31}, {`[{"name":"\u00e4","type":"int"}]`, "", 31}, {`[{"name":"f","type":"int"},{"name":"f.","type":"int"}]`, "", 31},
		{`[{"name":"int","type":"int"},{"name":"record","type":"int"},{"name":"r","type":"int"}]`, "record n.r int:1 record:2 r:3; int; int; int", 0},
		// The same twice.
		{`[{"name":"f","type":"int"},{"name":"f","type":"int"}]`, "", 36}, {`[{"name":"f","type":"int"},{"name":"g","type":"int"},{"name":"f","type":"long"}]`, "", 36}, {`[{"name":"f","type":"int"},{"name":"F","type":"int"}]`, "record n.r f:1 F:2; int; int", 0},
		{`[{"name":"f","type":"int"},{"name":"g","type":"int"},{"name":"g","type":"long"}]`, "", 36}, {`[{"name":"f","type":"int","aliases":["g"]},{"name":"g","type":"int","aliases":["f","h"]}]`, "record n.r f~g:1 g~f~h:2; int; int", 0},
		{`[{"name":"f","type":{"type":"record","name":"s","fields":[{"name":"f","type":"int"},{"name":"g","type":"int"}]}},{"name":"g","type":"int"}]`, "record n.r f:1 g:4; record n.s f:2 g:3; int; int; int", 0},
		// Without a type, or with one that is none.
		{`[{"name":"f"}]`, "", 30}, {`[{"name":"f","Type":"int"}]`, "", 30}, {`[{"name":"f","type":null}]`, "", 30}, {`[{"name":"f","type":7}]`, "", 30}, {`[{"name":"f","type":{}}]`, "", 30}, {`[{"name":"f","type":[]}]`, "", 34}, {`[{"name":"f","type":"1"}]`, "", 31}, {`[{"name":"f","type":"g"}]`, "", 33},
		{`[{"name":"f","type":"array","items":"int"}]`, "", 33}, {`[{"name":"f","type":"fixed","size":1}]`, "", 33}, {`[{"name":"f","type":{"type":"int"}}]`, "record n.r f:1; int", 0}, {`[{"name":"f","type":{"type":{"type":"int"}}}]`, "", 30},
		// Aliases.
		{`[{"name":"f","type":"int","aliases":[]}]`, "record n.r f:1; int", 0}, {`[{"name":"f","type":"int","aliases":["g","f","g","int"]}]`, "record n.r f~g~f~g~int:1; int", 0}, {`[{"name":"f","type":"int","aliases":["a.b"]}]`, "", 31}, {`[{"name":"f","type":"int","aliases":["g","n.h"]}]`, "", 31},
		{`[{"name":"f","type":"int","aliases":[""]}]`, "", 31}, {`[{"name":"f","type":"int","aliases":["1"]}]`, "", 31}, {`[{"name":"f","type":"int","aliases":null}]`, "", 30}, {`[{"name":"f","type":"int","aliases":"g"}]`, "", 30}, {`[{"name":"f","type":"int","aliases":{"a":"g"}}]`, "", 30}, {`[{"name":"f","type":"int","aliases":["g",7]}]`, "", 30},
		{`[{"name":"f","type":"int","aliases":["1",7]}]`, "", 30},
		// Defaults, which stay as they are.
		{`[{"name":"f","type":"int","default":null}]`, "record n.r f:1=null; int", 0}, {`[{"name":"f","type":"null","default":7},{"name":"g","type":"int"}]`, "record n.r f:1=7 g:2; null; int", 0}, {`[{"default":"x","name":"f","type":"int"}]`, `record n.r f:1="x"; int`, 0},
		{`[{"name":"f","type":"int","default":[]},{"name":"g","type":"int","default":{}},{"name":"h","type":"int","default":""},{"name":"i","type":"int","default":0},{"name":"j","type":"int","default":false}]`, `record n.r f:1=[] g:2={} h:3="" i:4=0 j:5=false; int; int; int; int; int`, 0},
		{`[{"name":"f","type":"int","default":{"b":[1,{"type":7,"a":"\u0000\u00e4"}],"a":true}}]`, `record n.r f:1={"b":[1,{"type":7,"a":"\u0000ä"}],"a":true}; int`, 0}, {`[{"name":"f","type":"int","Default":1,"order":"ignore","doc":7,"namespace":"1","size":-1}]`, "record n.r f:1; int", 0},
	} {
		j := with(record("n.r"), "fields", tree(r.text))
		if s, e := check(t, j); e != r.e || line(s) != r.line {
			t.Errorf("Build(%s) = %s, %d, not %s, %d", said(j), line(s), e, r.line, r.e)
		}
	}
	checkRefused(t, without(record("r"), "fields"), 30)
	checkRefused(t, with(without(record("r"), "fields"), "Fields", list()), 30)
	for _, size := range []int{1, 39, 40, 41, 42, 500} {
		if s, e := check(t, record("r", times(size, text("int"))...)); size <= 40 && (e != 0 || len(s.Nodes[0].Fields) != size) || size > 40 && e != 3 {
			t.Errorf("%d fields are told %d", size, e)
		}
		if size > 40 {
			// Told ahead of what the fields are.
			checkRefused(t, with(record("r"), "fields", list(times(size, tree("7"))...)), 3)
			checkRefused(t, record("r", times(size, text("1"))...), 3)
		}
	}
}

// P12.1: just as long names of fields, symbols and aliases as may be, and longer ones.
func TestLongSimpleNames(t *testing.T) {
	for _, size := range []int{1, 99, 100, 101, 102, 1000} {
		want := api.Errno(0)
		if size > 100 {
			want = 31
		}
		checkRefused(t, with(record("r"), "fields", list(with(tree(`{"type":"int"}`), "name", text(a(size))))), want)
		checkRefused(t, with(record("n.r"), "fields", list(with(tree(`{"name":"f","type":"int"}`), "aliases", list(text(a(size)))))), want)
		checkRefused(t, with(tree(`{"type":"enum","name":"n.e"}`), "symbols", list(text(a(size)))), want)
	}
}

// P12.1, P12.2: records that are parts of themselves.
func TestRecordsInThemselves(t *testing.T) {
	checkRows(t, []row{
		{`{"type":"record","name":"r","fields":[{"name":"f","type":{"type":"array","items":"r"}}]}`, "record r f:1; array 0", 0},
		{`{"type":"record","name":"r","fields":[{"name":"f","type":{"type":"map","values":"r"}}]}`, "record r f:1; map 0", 0},
		{`{"type":"record","name":"r","fields":[{"name":"f","type":["r"]}]}`, "record r f:1; union 0", 0},
		{`{"type":"array","items":{"type":"record","name":"r","fields":[{"name":"f","type":["null",{"type":"record","name":"s","fields":[{"name":"f","type":["null","r","s"]},{"name":"g","type":["s"]}]}]},{"name":"g","type":"s"}]}}`, "array 1; record r f:2 g:4; union 3 4; null; record s f:5 g:7; union 6 1 4; null; union 4", 0},
		{`{"type":"record","name":"r","fields":[{"name":"f","type":"r"}]}`, "", 3},
		{`{"type":"record","name":"r","fields":[{"name":"f","type":"int"},{"name":"g","type":{"type":"r"}}]}`, "", 3},
		{`{"type":"record","name":"r","fields":[{"name":"f","type":{"type":"record","name":"s","fields":[{"name":"f","type":"r"}]}}]}`, "", 3},
		{`{"type":"record","name":"r","fields":[{"name":"f","type":{"type":"array","items":{"type":"record","name":"s","fields":[{"name":"f","type":"s"}]}}}]}`, "", 3},
		{`["null",{"type":"record","name":"r","fields":[{"name":"f","type":"r"}]}]`, "", 3},
		{`{"type":"map","values":{"type":"record","name":"n.r","fields":[{"name":"f","type":"n.r"}]}}`, "", 3},
		// What else is wrong is told ahead of that, wherever it stands.
		{`[{"type":"record","name":"r","fields":[{"name":"f","type":"r"}]},"nothing"]`, "", 33}, {`[{"type":"record","name":"r","fields":[{"name":"f","type":"r"}]},"r"]`, "", 34},
		{`{"type":"record","name":"r","fields":[{"name":"f","type":"r"},{"name":"f","type":"int"}]}`, "", 36}, {`{"type":"record","name":"r","fields":[{"name":"f","type":"r"},{"name":"1","type":"int"}]}`, "", 31}, {`{"type":"record","name":"r","fields":[{"name":"f","type":"r"},{}]}`, "", 30},
	})
}

// P12.1: enums' symbols and defaults.
func TestEnums(t *testing.T) {
	for _, r := range []row{
		{`"symbols":["A"]`, "enum n.e A", 0}, {`"symbols":["B","A","a","_","int","e"]`, "enum n.e B A a _ int e", 0},
		{`"doc":7`, "", 30}, {`"Symbols":["A"]`, "", 30}, {`"symbols":null`, "", 30}, {`"symbols":"A"`, "", 30}, {`"symbols":7`, "", 30}, {`"symbols":{}`, "", 30}, {`"symbols":{"A":"A"}`, "", 30}, {`"symbols":[]`, "", 30},
		{`"symbols":[null]`, "", 30}, {`"symbols":["A",1]`, "", 30}, {`"symbols":[["A"]]`, "", 30}, {`"symbols":["1",1]`, "", 30}, {`"symbols":[1,"1"]`, "", 30}, {`"symbols":["A","A",{}]`, "", 30},
		{`"symbols":[""]`, "", 31}, {`"symbols":["1"]`, "", 31}, {`"symbols":["A","a.b"]`, "", 31}, {`"symbols":["n.A"]`, "", 31}, {`"symbols":["A b"]`, "", 31}, {`"symbols":["\u00e4"]`, "", 31}, {`"symbols":["A","B","-"]`, "", 31},
		{`"symbols":["A","A"]`, "", 36}, {`"symbols":["B","A","C","A"]`, "", 36}, {`"symbols":["A","B","B"]`, "", 36}, {`"symbols":["A","a"]`, "enum n.e A a", 0},
		// In order: a symbol is there twice where it stands again.
		{`"symbols":["A","A","1"]`, "", 36}, {`"symbols":["A","1","A"]`, "", 31}, {`"symbols":["1","A","A"]`, "", 31}, {`"symbols":["1","1"]`, "", 31}, {`"symbols":["A","B","B","1","A"]`, "", 36},
		// Defaults.
		{`"symbols":["A","B"],"default":"A"`, "enum n.e A B =A", 0}, {`"symbols":["A","B"],"default":"B"`, "enum n.e A B =B", 0}, {`"default":"B","symbols":["A","B"]`, "enum n.e A B =B", 0}, {`"symbols":["A","B"],"Default":"C"`, "enum n.e A B", 0},
		{`"symbols":["A"],"default":null`, "", 30}, {`"symbols":["A"],"default":0`, "", 30}, {`"symbols":["A"],"default":["A"]`, "", 30}, {`"symbols":["A"],"default":{}`, "", 30}, {`"symbols":["A"],"default":false`, "", 30},
		{`"symbols":["A"],"default":"B"`, "", 35}, {`"symbols":["A"],"default":""`, "", 35}, {`"symbols":["A"],"default":"a"`, "", 35}, {`"symbols":["A"],"default":"n.A"`, "", 35}, {`"symbols":["A"],"default":"1"`, "", 35}, {`"symbols":["A"],"default":"AA"`, "", 35},
		// Symbols are told ahead of a default.
		{`"symbols":[],"default":"A"`, "", 30}, {`"symbols":["1"],"default":7`, "", 31}, {`"symbols":["1"],"default":"A"`, "", 31}, {`"symbols":["A","A"],"default":7`, "", 36}, {`"symbols":["A","A"],"default":"B"`, "", 36}, {`"symbols":7,"default":"B"`, "", 30},
	} {
		j := tree(`{"type":"enum","name":"n.e",` + r.text + `}`)
		if s, e := check(t, j); e != r.e || line(s) != r.line {
			t.Errorf("Build(%s) = %s, %d, not %s, %d", said(j), line(s), e, r.line, r.e)
		}
	}
	enum := tree(`{"type":"enum","name":"e"}`)
	for _, size := range []int{1, 39, 40, 41, 42, 500} {
		if s, e := check(t, with(enum, "symbols", list(named("A", size)...))); size <= 40 && (e != 0 || len(s.Nodes[0].Symbols) != size) || size > 40 && e != 3 {
			t.Errorf("%d symbols are told %d", size, e)
		}
		last := text(fmt.Sprint("A", size-1))
		if s, e := check(t, with(with(enum, "symbols", list(named("A", size)...)), "default", last)); size <= 40 && (e != 0 || s.Nodes[0].Default != last.Text) || size > 40 && e != 3 {
			t.Errorf("%d symbols, of which the last is the default, are told %d", size, e)
		}
		if size > 40 {
			// Told ahead of what the symbols are, if they are texts.
			checkRefused(t, with(enum, "symbols", list(times(size, text("A"))...)), 3)
			checkRefused(t, with(enum, "symbols", list(times(size, text("1"))...)), 3)
			checkRefused(t, with(with(enum, "symbols", list(named("A", size)...)), "default", tree("7")), 3)
		}
		checkRefused(t, with(enum, "symbols", list(append(named("A", size), number(1))...)), 30)
	}
}

// P12.1: fixed ones' sizes.
func TestFixed(t *testing.T) {
	for _, r := range []row{
		{`"size":0`, "fixed n.x 0", 0}, {`"size":1`, "fixed n.x 1", 0}, {`"size":-0`, "fixed n.x 0", 0}, {`"size":999`, "fixed n.x 999", 0}, {`"size":1000`, "fixed n.x 1000", 0}, {`"size":1001`, "", 3}, {`"size":-1`, "", 3},
		{`"size":4294967296`, "", 3}, {`"size":4294967297`, "", 3}, {`"size":-4294967295`, "", 3}, {`"size":9223372036854775807`, "", 3}, {`"size":-9223372036854775808`, "", 3},
		{`"doc":1`, "", 30}, {`"Size":1`, "", 30}, {`"size":null`, "", 30}, {`"size":true`, "", 30}, {`"size":false`, "", 30}, {`"size":"1"`, "", 30}, {`"size":[1]`, "", 30}, {`"size":{}`, "", 30}, {`"size":[]`, "", 30},
		{`"size":1,"default":7,"symbols":7,"fields":7,"items":7`, "fixed n.x 1", 0},
	} {
		j := tree(`{"type":"fixed","name":"n.x",` + r.text + `}`)
		if s, e := check(t, j); e != r.e || line(s) != r.line {
			t.Errorf("Build(%s) = %s, %d, not %s, %d", said(j), line(s), e, r.line, r.e)
		}
	}
}

// P12.1: just as many nodes as may be, and one more, in each way that a node is made.
func TestManyNodes(t *testing.T) {
	array, dict := tree(`{"type":"array"}`), tree(`{"type":"map"}`)
	for _, r := range []struct {
		text string
		made int
	}{
		{`"root"`, 0}, {`{"type":"root"}`, 0}, {`"null"`, 1}, {`"string"`, 1}, {`{"type":"int"}`, 1}, {`["ahead0"]`, 1}, {`["ahead0","int"]`, 2}, {`["null","int","ahead0"]`, 3},
		{`{"type":"array","items":"ahead0"}`, 1}, {`{"type":"array","items":"int"}`, 2}, {`{"type":"map","values":"ahead0"}`, 1}, {`{"type":"map","values":"int"}`, 2}, {`{"type":"map","values":{"type":"array","items":"int"}}`, 3},
		{`{"type":"record","name":"r","fields":[]}`, 1}, {`{"type":"record","name":"r","fields":[{"name":"f","type":"ahead0"}]}`, 1}, {`{"type":"record","name":"r","fields":[{"name":"f","type":"int"},{"name":"g","type":["r"]}]}`, 3},
		{`{"type":"enum","name":"r","symbols":["A"]}`, 1}, {`{"type":"fixed","name":"r","size":1}`, 1}, {`[{"type":"enum","name":"r","symbols":["A"]},{"type":"fixed","name":"s","size":1},"ahead0"]`, 3},
	} {
		j := tree(r.text)
		for ahead := 196; ahead <= 200; ahead++ {
			checkMany(t, with(array, "items", behind(ahead-2, with(dict, "values", j))), ahead+r.made)
			// Of the others the record root would be a part of itself by fields.
			if r.made > 0 {
				checkMany(t, behind(ahead, j), ahead+r.made)
				checkMany(t, with(array, "items", behind(ahead-1, j)), ahead+r.made)
			}
		}
	}
	for _, ahead := range []int{2, 41, 161, 199, 200} {
		checkMany(t, behind(ahead, text("ahead0")), ahead)
	}
}

// checkMany holds a tree of so many nodes against how many may be.
func checkMany(t *testing.T, j api.Json, nodes int) {
	t.Helper()
	s, e := check(t, j)
	if nodes <= 200 && (e != api.OK || len(s.Nodes) != nodes) || nodes > 200 && e != 3 {
		t.Errorf("%d nodes are told %d, of %d nodes: %s", nodes, e, len(s.Nodes), said(j))
	}
}

// P12.1: where there is no room for a node, in order with what is told ahead of that, and what is not.
func TestWhereNodesAreMade(t *testing.T) {
	for _, r := range []row{
		// Ahead of a node.
		{`{"type":"array"}`, "", 30}, {`{"type":"map"}`, "", 30}, {`[]`, "", 34}, {`["int","int","int","int","int","int","int","int","int","int","int"]`, "", 34}, {`7`, "", 30}, {`{}`, "", 30}, {`"1"`, "", 31}, {`"nothing"`, "", 33}, {`{"type":"nothing"}`, "", 33},
		{`{"type":"record","fields":[]}`, "", 30}, {`{"type":"record","name":"1","fields":[]}`, "", 31}, {`{"type":"record","name":"ahead0","fields":[]}`, "", 32}, {`{"type":"record","name":"r","aliases":7,"fields":[]}`, "", 30}, {`{"type":"record","name":"r","aliases":["1"],"fields":[]}`, "", 31}, {`{"type":"record","name":"r"}`, "", 30},
		{`{"type":"enum","name":"r","symbols":[]}`, "", 30}, {`{"type":"enum","name":"r","symbols":["1"]}`, "", 31}, {`{"type":"enum","name":"r","symbols":["A","A"]}`, "", 36}, {`{"type":"enum","name":"r","symbols":["A"],"default":7}`, "", 30}, {`{"type":"enum","name":"r","symbols":["A"],"default":"B"}`, "", 35}, {`{"type":"fixed","name":"r"}`, "", 30},
		// Behind it.
		{`{"type":"array","items":7}`, "", 3}, {`{"type":"array","items":"nothing"}`, "", 3}, {`{"type":"map","values":"1"}`, "", 3}, {`["nothing"]`, "", 3}, {`[[]]`, "", 3}, {`[7]`, "", 3}, {`{"type":"record","name":"r","fields":[7]}`, "", 3}, {`{"type":"record","name":"r","fields":[{"name":"1"}]}`, "", 3}, {`{"type":"record","name":"r","fields":[{"name":"f","type":"r"}]}`, "", 3},
		{`"int"`, "", 3}, {`{"type":"record","name":"r","fields":[]}`, "", 3}, {`{"type":"enum","name":"r","symbols":["A"]}`, "", 3}, {`{"type":"fixed","name":"r","size":1}`, "", 3},
	} {
		checkRefused(t, behind(200, tree(r.text)), r.e)
	}
	// What stands behind it is not asked any more.
	checkRefused(t, behind(200, tree(`["int","nothing"]`)), 3)
	checkRefused(t, behind(199, tree(`["int","nothing"]`)), 3)
	checkRefused(t, behind(198, tree(`["int","nothing"]`)), 33)
	checkRefused(t, behind(198, tree(`["int","int"]`)), 3)
	checkRefused(t, behind(197, tree(`["int","int"]`)), 34)
}

// P12.1: weights of just as much as may be, and of one more, of the root and of nodes below it.
func TestWeights(t *testing.T) {
	inner := record("s", times(40, text("int"))...)
	for _, row := range []struct{ inner, ints, weight int }{{24, 15, 1000}, {24, 16, 1001}, {23, 16, 960}, {25, 0, 1026}, {24, 14, 999}, {39, 1, 1601}} {
		of := append([]api.Json{inner}, times(row.inner-1, text("s"))...)
		j := record("r", append(of, times(row.ints, text("int"))...)...)
		for n, j := range []api.Json{j, list(text("null"), j), with(tree(`{"type":"array"}`), "items", j), with(tree(`{"type":"map"}`), "values", j), record("t", list(j)), list(record("t", list(j)), text("null"))} {
			s, e := check(t, j)
			if want := row.weight <= 1000; want != (e == 0) || !want && e != 3 || !want && len(s.Nodes) != 0 {
				t.Errorf("%d: a weight of %d is told %d", n, row.weight, e)
			}
		}
		// And one more by a record around it, which weighs that and 1.
		_, e := check(t, record("t", j))
		if want := row.weight+1 <= 1000; want != (e == 0) || !want && e != 3 {
			t.Errorf("a weight of %d and 1 is told %d", row.weight, e)
		}
		// What is wrong behind it is told ahead of it.
		checkRefused(t, list(j, text("nothing")), 33)
		checkRefused(t, list(j, text("r")), 34)
		checkRefused(t, record("t", j, text("1")), 31)
	}
	// Parts of parts, so many that no number holds how many they are.
	j := record("r0", text("int"))
	for n := range 9 {
		j = record(fmt.Sprint("r", n+1), append([]api.Json{j}, times(39, text(fmt.Sprint("r", n)))...)...)
	}
	checkRefused(t, j, 3)
	checkRefused(t, with(tree(`{"type":"array"}`), "items", j), 3)
}
