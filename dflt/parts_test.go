package dflt_test

import (
	"fmt"
	"reflect"
	"slices"
	"strings"
	"testing"

	"avocet/api"
	"avocet/build"
	"avocet/dflt"
)

// checkRoom holds a tree of a schema's first node against the chapter's words, and whether it says a value against what is wanted.
func checkRoom(t *testing.T, s api.Schema, j api.Json, want bool) {
	t.Helper()
	v, e := check(t, s, 0, j)
	if want && e != 0 || !want && e != 35 {
		t.Fatalf("Of(%s, 0, %s) = %s, %d", said(s), said(j), said(line(v)), e)
	}
}

// lists is a list of lists of a tree, so many each.
func lists(j api.Json, sizes ...int) api.Json {
	var out []api.Json
	for _, size := range sizes {
		out = append(out, list(times(size, j)...))
	}
	return list(out...)
}

// P13.1: values of just MaxParts parts, and of one more, by items.
func TestPartsByItems(t *testing.T) {
	two := of(`{"type":"array","items":{"type":"array","items":"int"}}`)
	three := of(`{"type":"array","items":{"type":"array","items":{"type":"array","items":"int"}}}`)
	for parts := 990; parts <= 1010; parts++ {
		left := parts - 5
		for _, sizes := range [][]int{{300, 300, 300, left - 900}, {left - 900, 300, 300, 300}, {250, left - 750, 250, 250}, {left - 899, 299, 300, 300}} {
			checkRoom(t, two, lists(number(7), sizes...), parts <= 1000)
			// One list more around them is one part more.
			checkRoom(t, three, list(lists(number(7), sizes...)), parts <= 999)
			checkRoom(t, three, list(lists(number(7), sizes...), list()), parts <= 998)
			checkRoom(t, three, list(list(), lists(number(7), sizes...), lists(number(7), 1)), parts <= 995)
		}
		// Lists that are empty are parts too.
		sizes := make([]int, 300)
		sizes[17], sizes[250], sizes[299] = 300, 300, parts-901
		checkRoom(t, two, lists(number(7), sizes...), parts <= 1000)
	}
	for _, sizes := range [][]int{slices.Repeat([]int{300}, 4), slices.Repeat([]int{300}, 300), {300, 300, 300, 300, 0, 0, 0}} {
		checkRoom(t, two, lists(number(7), sizes...), false)
	}
	// What says no value behind the last part that there is room for.
	checkRoom(t, two, list(append(lists(number(7), 300, 300, 300, 95).Items, text("no"))...), false)
	checkRoom(t, two, list(append([]api.Json{text("no")}, lists(number(7), 300, 300, 300, 95).Items...)...), false)
}

// P13.1: by keys.
func TestPartsByKeys(t *testing.T) {
	maps := of(`{"type":"map","values":{"type":"map","values":"int"}}`)
	mapOfLists := of(`{"type":"map","values":{"type":"array","items":"int"}}`)
	listOfMaps := of(`{"type":"array","items":{"type":"map","values":"int"}}`)
	for parts := 990; parts <= 1010; parts++ {
		left := parts - 5
		for _, sizes := range [][]int{{300, 300, 300, left - 900}, {left - 900, 300, 300, 300}, {250, left - 750, 250, 250}} {
			ofLists := lists(number(7), sizes...).Items
			var ofMaps []api.Json
			for _, one := range ofLists {
				ofMaps = append(ofMaps, numbered(one.Items...))
			}
			checkRoom(t, maps, numbered(ofMaps...), parts <= 1000)
			checkRoom(t, mapOfLists, numbered(ofLists...), parts <= 1000)
			checkRoom(t, listOfMaps, list(ofMaps...), parts <= 1000)
		}
	}
	// However long the keys are.
	long := numbered(times(300, number(7))...)
	for at := range long.Keys {
		long.Keys[at] += strings.Repeat("k", 10000)
	}
	short := numbered(times(96, number(7))...)
	checkRoom(t, maps, numbered(long, long, long, numbered(short.Items[:95]...)), true)
	checkRoom(t, maps, numbered(long, long, long, short), false)
}

// nulls are the trees of so many fields of null, which have defaults.
func nulls(size int) api.Json {
	var fields []api.Json
	for n := range size {
		fields = append(fields, filled(`{"name":"$0","type":"null","default":null}`, text(fmt.Sprint("f", n))))
	}
	return list(fields...)
}

// heavy is the tree of a record of such a weight, from 965 to 1000, which is filled up by defaults alone.
func heavy(weight int) api.Json {
	fields := []api.Json{
		filled(`{"name":"first","type":{"type":"record","name":"of40","fields":"$0"},"default":{}}`, nulls(39)),
		filled(`{"name":"rest","type":{"type":"record","name":"rest","fields":"$0"},"default":{}}`, nulls(weight-962)),
	}
	for n := range 23 {
		fields = append(fields, filled(`{"name":"$0","type":"of40","default":{}}`, text(fmt.Sprint("more", n))))
	}
	return filled(`{"type":"record","name":"heavy","fields":"$0"}`, list(fields...))
}

// P13.1: by defaults.
func TestPartsByDefaults(t *testing.T) {
	for weight := 990; weight <= 1000; weight++ {
		for _, r := range []struct {
			schema, tree string
			more         int
		}{
			{`"$0"`, `{}`, 0},
			{`"$0"`, `{"more3":{"f2":null},"rest":{},"other":[]}`, 0},
			{`["$0","null"]`, `{}`, 1},
			{`["$0","null"]`, `{"more22":{"f38":null}}`, 1},
			{`{"type":"array","items":"$0"}`, `[{}]`, 1},
			{`{"type":"map","values":"$0"}`, `{"a":{}}`, 1},
			{`{"type":"array","items":["$0"]}`, `[{}]`, 2},
			{`{"type":"array","items":{"type":"map","values":["$0"]}}`, `[{},{"a":{}},{}]`, 5},
			{`{"type":"array","items":"$0"}`, `[{},{}]`, 1 + weight},
			{`{"type":"array","items":"$0"}`, `[]`, 1 - weight},
		} {
			checkRoom(t, schemaOf(filled(r.schema, heavy(weight))), tree(r.tree), weight+r.more <= 1000)
		}
	}
	// Of three parts each, and a list more or less.
	small := of(`{"type":"array","items":{"type":"array","items":{"type":"record","name":"r","fields":[{"name":"a","type":"null","default":null},{"name":"b","type":"int","default":1}]}}}`)
	for _, r := range []struct {
		sizes []int
		parts int
	}{
		{[]int{300, 32}, 999}, {[]int{32, 300}, 999}, {[]int{300, 0, 32}, 1000}, {[]int{32, 0, 300}, 1000}, {[]int{0, 300, 32, 0}, 1001}, {[]int{300, 33}, 1002}, {[]int{300, 300, 300, 300}, 3605},
	} {
		checkRoom(t, small, lists(tree(`{}`), r.sizes...), r.parts <= 1000)
		checkRoom(t, small, lists(tree(`{"b":2}`), r.sizes...), r.parts <= 1000)
	}
}

// P13.1, P13.2: a default's parts are its own; with a Record around it there is one more.
func TestPartsOfADefault(t *testing.T) {
	for parts := 995; parts <= 1005; parts++ {
		s := schemaOf(filled(`{"type":"record","name":"r","fields":[{"name":"a","type":{"type":"array","items":{"type":"array","items":"int"}},"default":"$0"}]}`, lists(number(7), 300, 300, 300, parts-905)))
		want := api.OK
		if parts > 1000 {
			want = 35
		}
		if e := checkFields(t, s); e != want {
			t.Errorf("Check of a default of %d parts = %d", parts, e)
		}
		checkRoom(t, s, tree(`{}`), parts <= 999)
		checkRoom(t, s, tree(`{"a":[]}`), true)
	}
}

// P13.1: by Unions in one another.
func TestPartsByUnions(t *testing.T) {
	flat := of(`{"type":"array","items":{"type":"array","items":["int"]}}`)
	for _, r := range []struct {
		sizes []int
		parts int
	}{
		{[]int{300, 198}, 999}, {[]int{300, 198, 0}, 1000}, {[]int{0, 198, 300}, 1000}, {[]int{0, 300, 198, 0}, 1001}, {[]int{300, 199}, 1001}, {[]int{300, 300}, 1203},
	} {
		checkRoom(t, flat, lists(number(1), r.sizes...), r.parts <= 1000)
	}
	// Each of those that are in others is a part, and so is the list in it.
	nested := of(`[{"type":"array","items":["null"]},"null"]`)
	around := of(`[{"type":"array","items":[{"type":"array","items":[{"type":"array","items":["boolean","int"]},"int"]},"int"]}]`)
	checkRoom(t, nested, list(times(300, tree(`null`))...), true)
	for _, r := range []struct {
		sizes []int
		parts int
	}{
		{[]int{300, 196}, 1000}, {[]int{196, 300}, 1000}, {[]int{300, 195}, 998}, {[]int{300, 197}, 1002}, {[]int{300, 195, 0}, 1000}, {[]int{300, 195, 0, 0}, 1002},
	} {
		// Two for what is around all, two for each list in it, and two for each item of these.
		deep := list(lists(tree(`true`), r.sizes...))
		checkRoom(t, around, deep, r.parts <= 1000)
		checkRoom(t, around, list(append(deep.Items, list())...), r.parts <= 998)
	}
}

// chain is a schema of nodes in one another by their forms: [ an Array, { a Map, ( a Record, its field without a default, = a Record that is filled up by one, < a Union; last is the node in all of them, and j says its value. It tells the tree that says the first one's value, and its line.
func chain(forms string, last []api.Node, j api.Json, line string) (api.Schema, api.Json, string) {
	s := api.Schema{}
	for at, form := range forms {
		n := api.Node{Name: fmt.Sprint("r", at)}
		switch form {
		case '(', '=':
			n.Kind, n.Fields = api.Record, []api.Field{{Name: "f", Type: at + 1}}
		case '<':
			n = api.Node{Kind: api.Union, Branches: []int{at + 1}}
		case '[':
			n = api.Node{Kind: api.Array, Items: at + 1}
		case '{':
			n = api.Node{Kind: api.Map, Items: at + 1}
		}
		s.Nodes = append(s.Nodes, n)
	}
	for _, n := range last {
		if n.Kind == api.Union {
			n.Branches = []int{len(s.Nodes) + 1}
		}
		if n.Kind == api.Array || n.Kind == api.Map {
			n.Items = len(s.Nodes) + 1
		}
		s.Nodes = append(s.Nodes, n)
	}
	for at := len(forms) - 1; at >= 0; at-- {
		switch forms[at] {
		case '(':
			j, line = api.Json{Kind: api.JObj, Keys: []string{"f"}, Items: []api.Json{j}}, "("+line+")"
		case '=':
			s.Nodes[at].Fields[0].Has, s.Nodes[at].Fields[0].Default = true, j
			j, line = api.Json{Kind: api.JObj}, "("+line+")"
		case '[':
			j, line = list(j), "["+line+"]"
		case '{':
			j, line = api.Json{Kind: api.JObj, Keys: []string{"k"}, Items: []api.Json{j}}, "{k: "+line+"}"
		case '<':
			line = "<" + line + ">"
		}
	}
	return s, j, line
}

// P13.1: values of just MaxDeep deep, and of one deeper.
func TestDeep(t *testing.T) {
	one := func(kind int) []api.Node { return []api.Node{{Kind: kind}} }
	lasts := []struct {
		nodes []api.Node
		tree  string
		line  string
		deep  int
	}{
		{one(api.Null), `null`, `null`, 0},
		{one(api.Int), `5`, `int 5`, 0},
		{one(api.String), `"x"`, `string x`, 0},
		{one(api.Bytes), `"ÿ"`, `bytes ff`, 0},
		{[]api.Node{{Kind: api.Fixed, Name: "x", Size: 1}}, `"ÿ"`, `fixed ff`, 0},
		{[]api.Node{{Kind: api.Enum, Name: "e", Symbols: []string{"A"}}}, `"A"`, `enum 0`, 0},
		{[]api.Node{{Kind: api.Array}, {Kind: api.Int}}, `[]`, `[]`, 1}, // empty ones at the last depth
		{[]api.Node{{Kind: api.Map}, {Kind: api.Int}}, `{}`, `{}`, 1},
		{[]api.Node{{Kind: api.Record, Name: "r"}}, `{}`, `()`, 1},
		{[]api.Node{{Kind: api.Record, Name: "r"}}, `{"f":[[]]}`, `()`, 1}, // what no field asks for is not deep
		{[]api.Node{{Kind: api.Array}, {Kind: api.Int}}, `[1,2]`, `[int 1, int 2]`, 1},
		{[]api.Node{{Kind: api.Map}, {Kind: api.Int}}, `{"a":1}`, `{a: int 1}`, 1},
		{[]api.Node{{Kind: api.Array}, {Kind: api.Array}, {Kind: api.Int}}, `[[],[]]`, `[[], []]`, 2},
		{[]api.Node{{Kind: api.Array}, {Kind: api.Union}, {Kind: api.Int}}, `[]`, `[]`, 1},
	}
	for _, form := range []string{"[", "{", "(", "=", "[{", "{(", "(=", "=[", "<[", "[<", "<{", "{<", "<(", "(<", "<=", "=<", "<[{(=", "<(<=", "[(<{=("} {
		forms := strings.Repeat(form, 24)
		for around := 15; around <= 22; around++ {
			for _, last := range lasts {
				want := around+last.deep <= 20
				s, j, wanted := chain(forms[:around], last.nodes, tree(last.tree), last.line)
				if !want {
					wanted = ""
				}
				checkIs(t, s, 0, j, wanted)
				// The chain's own defaults are less deep, by the record that they are of.
				refused := api.OK
				if at := strings.Index(forms[:around], "="); at >= 0 && around-at-1+last.deep > 20 {
					refused = 35
				}
				if e := checkFields(t, s); e != refused {
					t.Fatalf("Check(%s) = %d, not %d", said(s), e, refused)
				}
				if forms[around-1] != '<' {
					s, j, wanted := chain(forms[:around]+"<", last.nodes, tree(last.tree), last.line)
					if around+last.deep >= 20 {
						wanted = ""
					}
					checkIs(t, s, 0, j, wanted)
				}
			}
		}
	}
}

// P13.1: it is the deepest part that counts, wherever it stands.
func TestDeepAmongOthers(t *testing.T) {
	s := of(`{"type":"record","name":"r","fields":[{"name":"more","type":{"type":"array","items":"r"},"default":[]}]}`)
	nested := func(records int) api.Json {
		j := tree(`{"more":[]}`)
		for range records - 1 {
			j = api.Json{Kind: api.JObj, Keys: []string{"more"}, Items: []api.Json{list(j)}}
		}
		return j
	}
	around := func(items ...api.Json) api.Json {
		return api.Json{Kind: api.JObj, Keys: []string{"more"}, Items: []api.Json{list(items...)}}
	}
	for records := 1; records <= 15; records++ {
		// Each of the records, and the list in it.
		checkRoom(t, s, nested(records), records <= 10)
		for _, j := range []api.Json{
			around(nested(records)), around(nested(records), tree(`{}`)), around(tree(`{}`), nested(records)), around(nested(1), nested(records), nested(2)), around(nested(records), nested(records)),
		} {
			checkRoom(t, s, j, records <= 9)
		}
	}
	// With a list around it there is a record that has room, and whose own list has none.
	s.Nodes = append([]api.Node{{Kind: api.Array, Items: 1}}, s.Nodes...)
	s.Nodes[1].Fields[0].Type, s.Nodes[2].Items = 2, 1
	checkRoom(t, s, list(nested(9)), true)
	checkRoom(t, s, list(nested(10)), false)
}

// P13.1, P13.2: defaults that are filled up by themselves have no end, and end nevertheless.
func TestDefaultsWithoutEnd(t *testing.T) {
	for _, text := range []string{
		`{"type":"record","name":"r","fields":[{"name":"a","type":["r","null"],"default":{}}]}`,
		`{"type":"record","name":"r","fields":[{"name":"a","type":{"type":"array","items":"r"},"default":[{}]}]}`,
		`{"type":"record","name":"r","fields":[{"name":"a","type":{"type":"array","items":"r"},"default":[{},{},{},{},{},{},{},{}]}]}`,
		`{"type":"record","name":"r","fields":[{"name":"a","type":{"type":"map","values":"r"},"default":{"x":{},"y":{}}},{"name":"b","type":["r","null"],"default":{}},{"name":"c","type":["r"],"default":{}}]}`,
		`{"type":"record","name":"r","fields":[{"name":"a","type":["null","r"],"default":null},{"name":"b","type":["r","null"],"default":{"a":null}}]}`,
		`{"type":"record","name":"r","fields":[{"name":"a","type":{"type":"record","name":"s","fields":[{"name":"b","type":["r"],"default":{}}]},"default":{}}]}`,
	} {
		s := of(text)
		checkRoom(t, s, tree(`{}`), false)
		if e := checkFields(t, s); e != 35 {
			t.Errorf("Check of %s = %d", text, e)
		}
	}
	var fields []api.Json
	for n := range 40 {
		fields = append(fields, filled(`{"name":"$0","type":{"type":"array","items":["r","null"]},"default":"$1"}`, text(fmt.Sprint("f", n)), list(times(300, tree(`{}`))...)))
	}
	s := schemaOf(filled(`{"type":"record","name":"r","fields":"$0"}`, list(fields...)))
	checkRoom(t, s, tree(`{}`), false)
	if e := dflt.Check(s); e != 35 {
		t.Errorf("Check = %d", e)
	}
	// One that is a part of itself by defaults, and has an end.
	s = of(`{"type":"record","name":"r","fields":[{"name":"a","type":["null","r"],"default":null},{"name":"b","type":{"type":"array","items":"r"},"default":[]},{"name":"c","type":{"type":"map","values":["r"]},"default":{"x":{"c":{}},"y":{"b":[{"c":{}}],"c":{}}}}]}`)
	checkIs(t, s, 0, tree(`{}`), `(<null>, [], {x: <(<null>, [], {})>, y: <(<null>, [(<null>, [], {})], {})>})`)
	checkIs(t, s, 0, tree(`{"c":{"z":{}}}`), `(<null>, [], {z: <(<null>, [], {x: <(<null>, [], {})>, y: <(<null>, [(<null>, [], {})], {})>})>})`)
	if e := checkFields(t, s); e != api.OK {
		t.Errorf("Check = %d", e)
	}
}

// P13.1: trees with far more than says anything.
func TestFarTooMuch(t *testing.T) {
	many := list(times(100000, number(1))...)
	keyed := numbered(many.Items...)
	checkRoom(t, of(`{"type":"array","items":"int"}`), many, false)
	checkRoom(t, of(`{"type":"map","values":"int"}`), keyed, false)
	checkIs(t, of(`{"type":"record","name":"r","fields":[{"name":"k99999","type":"int"},{"name":"k0","type":"long"}]}`), 0, keyed, `(int 1, long 1)`)
	checkIs(t, of(`{"type":"record","name":"r","fields":[{"name":"a","type":"int","default":2}]}`), 0, keyed, `(int 2)`)
	long := text(strings.Repeat("ä", 1<<20))
	for _, schema := range []string{`"string"`, `"bytes"`, `{"type":"fixed","name":"x","size":1000}`, `{"type":"enum","name":"e","symbols":["A"]}`, `"int"`} {
		checkRoom(t, of(schema), long, false)
	}
}

// rich is a schema with each kind of node, and defaults of each.
const rich = `{"type":"record","name":"r","fields":[
	{"name":"a","type":"null","default":null},{"name":"b","type":"boolean","default":true},{"name":"c","type":"int","default":-5},{"name":"d","type":"long","default":6},{"name":"e","type":"float","default":7},{"name":"f","type":"double","default":8},
	{"name":"g","type":"bytes","default":"\u0000ÿ"},{"name":"h","type":"string","default":"ä€"},{"name":"i","type":{"type":"fixed","name":"x","size":2},"default":"ab"},{"name":"j","type":{"type":"enum","name":"e","symbols":["A","B"]},"default":"B"},
	{"name":"k","type":{"type":"array","items":"bytes"},"default":["x","","yz"]},{"name":"l","type":{"type":"map","values":["string","null"]},"default":{"k":"v","":"w","ä":""}},{"name":"m","type":[{"type":"record","name":"s","fields":[{"name":"n","type":"x","default":"cd"}]},"null"],"default":{}},{"name":"o","type":"s"}]}`

const richLine = `(null, boolean 1, int -5, long 6, float 40e00000, double 4020000000000000, bytes 00ff, string ä€, fixed 6162, enum 1, [bytes 78, bytes , bytes 797a], {k: <string v>, : <string w>, ä: <string >}, <(fixed 6364)>, (fixed 6566))`

// P13.1, P13.2, rule 4: what is handed out is new memory: it may be changed, and what it was made of too.
func TestMemory(t *testing.T) {
	s, j := twin(of(rich)), twin(tree(`{"o":{"n":"ef"}}`))
	wasS, wasJ := twin(s), twin(j)
	checkIs(t, s, 0, j, richLine)
	if e := checkFields(t, s); e != api.OK {
		t.Errorf("Check = %d", e)
	}
	v, _ := dflt.Of(s, 0, j)
	other, _ := dflt.Of(s, 0, j)
	field, _ := dflt.Field(s, 0, 11)
	spoil(reflect.ValueOf(&v).Elem())
	if line(other) != richLine || !untouched(s, wasS) || !untouched(j, wasJ) {
		t.Error("a value was changed, and so was another one, or what it was made of")
	}
	again, _ := dflt.Field(s, 0, 11)
	spoil(reflect.ValueOf(&again).Elem())
	if line(field) != `{k: <string v>, : <string w>, ä: <string >}` || !untouched(s, wasS) {
		t.Error("a field's default was changed, and so was another one, or its schema")
	}
	spoil(reflect.ValueOf(&s).Elem())
	spoil(reflect.ValueOf(&j).Elem())
	if line(other) != richLine || line(field) != `{k: <string v>, : <string w>, ä: <string >}` {
		t.Error("a schema and a tree were changed, and so was what they say")
	}
}

// spoil changes each part of a thing, where it stands, its lists' spare room too.
func spoil(v reflect.Value) {
	switch v.Kind() {
	case reflect.Struct:
		for at := range v.NumField() {
			spoil(v.Field(at))
		}
	case reflect.Slice:
		for at := range v.Cap() {
			spoil(v.Slice(0, v.Cap()).Index(at))
		}
	case reflect.Int, reflect.Int64:
		v.SetInt(v.Int() ^ 5)
	case reflect.Uint8, reflect.Uint64:
		v.SetUint(v.Uint() ^ 5)
	case reflect.String:
		v.SetString(v.String() + "spoiled")
	case reflect.Bool:
		v.SetBool(!v.Bool())
	}
}

// P13.1: each odd tree in the place of each part of a tree that says a value of each kind of node.
func TestOddParts(t *testing.T) {
	s := of(rich)
	whole := tree(`{"a":null,"b":false,"c":1,"d":2,"e":3,"f":4,"g":"g","h":"h","i":"ii","j":"A","k":["k","l"],"l":{"x":"y","z":"w"},"m":{"n":"nn"},"o":{"n":"oo"}}`)
	checkIs(t, s, 0, whole, `(null, boolean 0, int 1, long 2, float 40400000, double 4010000000000000, bytes 67, string h, fixed 6969, enum 0, [bytes 6b, bytes 6c], {x: <string y>, z: <string w>}, <(fixed 6e6e)>, (fixed 6f6f))`)
	said := 0
	for _, odd := range append(eachTree(), `"ii"`, `"g"`, `{"n":"pp"}`, `{"n":"p"}`, `["x"]`, `[["x"]]`, `{"x":null}`, `{"x":"y"}`, `5`) {
		for _, one := range anew(whole, tree(odd)) {
			if _, e := check(t, s, 0, one); e == api.OK {
				said++
			}
		}
	}
	if said < 100 {
		t.Errorf("just %d say values", said)
	}
}

// anew are trees alike, each with another one in the place of one part.
func anew(j, other api.Json) []api.Json {
	out := []api.Json{other}
	for at, item := range j.Items {
		for _, one := range anew(item, other) {
			with := api.Json{Kind: j.Kind, Keys: j.Keys, Items: slices.Clone(j.Items)}
			with.Items[at] = one
			out = append(out, with)
		}
		less := api.Json{Kind: j.Kind, Items: slices.Delete(slices.Clone(j.Items), at, at+1)}
		if j.Kind == api.JObj {
			less.Keys = slices.Delete(slices.Clone(j.Keys), at, at+1)
		}
		out = append(out, less)
	}
	return out
}

// grower tells schemas and trees that hang on no rule.
type grower struct {
	some  func(below int) int
	odd   int      // one in so many trees is an oddity
	names []string // of nodes that were made
	left  int      // how many parts a tree may have before it is cut off
}

// pick is one of several.
func pick[T any](g *grower, of ...T) T { return of[g.some(len(of))] }

// name is one that no node has.
func (g *grower) name() api.Json {
	g.names = append(g.names, fmt.Sprint("n", len(g.names)))
	return text(g.names[len(g.names)-1])
}

// node is the tree of a node; loose tells that one that is around it may stand there too.
func (g *grower) node(deep int, loose bool) api.Json {
	form := g.some(20)
	switch {
	case loose && form < 4 && len(g.names) > 0:
		return text(pick(g, g.names...))
	case form < 8 || deep > 5:
		return text(pick(g, "null", "boolean", "int", "long", "float", "double", "bytes", "string"))
	case form < 10:
		return filled(`{"type":"array","items":"$0"}`, g.node(deep+1, true))
	case form < 12:
		return filled(`{"type":"map","values":"$0"}`, g.node(deep+1, true))
	case form < 14:
		if form == 13 && len(g.names) > 0 {
			return list(text(pick(g, g.names...)), text("null"))
		}
		return list(g.node(deep+1, true), text("null"))
	case form < 15:
		return filled(`{"type":"fixed","name":"$0","size":"$1"}`, g.name(), number(int64(g.some(4))))
	case form < 16:
		return filled(`{"type":"enum","name":"$0","symbols":["A","B"]}`, g.name())
	}
	name := g.name()
	var fields []api.Json
	for n := range g.some(5) {
		fields = append(fields, filled(`{"name":"$0","type":"$1"}`, text(fmt.Sprint("f", n)), g.node(deep+1, false)))
	}
	return filled(`{"type":"record","name":"$0","fields":"$1"}`, name, list(fields...))
}

// schema is a schema in which some fields have defaults.
func (g *grower) schema() (api.Schema, bool) {
	g.names = nil
	s, e := build.Build(g.node(0, false))
	if e != api.OK {
		return s, false
	}
	for at := range s.Nodes {
		for place := range s.Nodes[at].Fields {
			if f := &s.Nodes[at].Fields[place]; g.some(2) == 0 {
				f.Has, f.Default = true, g.tree(s, f.Type, 0)
			}
		}
	}
	return s, true
}

// tree is a tree of a node, or an oddity.
func (g *grower) tree(s api.Schema, at, deep int) api.Json {
	n := s.Nodes[at]
	if deep == 0 {
		g.left = pick(g, 20, 40, 60, 80, 100, 120, 140, 1500)
	}
	g.left--
	if g.some(g.odd) == 0 || g.left < 0 || deep > 25 {
		return tree(pick(g, eachTree()...))
	}
	switch n.Kind {
	case api.Null:
		return tree(`null`)
	case api.Boolean:
		return tree(pick(g, `true`, `false`))
	case api.Int:
		return number(int64(int32(g.some(1 << 32))))
	case api.Long, api.Float, api.Double:
		return number(int64(g.some(1<<62)) >> g.some(62))
	case api.Bytes, api.String:
		return text(pick(g, "", "a", "ÿ", "ab\x00"))
	case api.Fixed:
		return text(strings.Repeat(pick(g, "a", "ÿ"), n.Size))
	case api.Enum:
		return text(pick(g, n.Symbols...))
	case api.Union:
		return g.tree(s, n.Branches[0], deep+1)
	}
	j := api.Json{Kind: api.JObj}
	add := func(key string, at int) {
		j.Keys, j.Items = append(j.Keys, key), append(j.Items, g.tree(s, at, deep+1))
	}
	if n.Kind != api.Record {
		most := pick(g, 3, 3, 3, 3, 3, 305)
		for at := range g.some(most) {
			add(fmt.Sprint("k", at), n.Items)
		}
		if n.Kind == api.Array {
			j.Kind, j.Keys = api.JList, nil
		}
		return j
	}
	for _, place := range []int{3, 0, 4, 1, 2} {
		if place < len(n.Fields) && (!n.Fields[place].Has || g.some(2) == 0) {
			add(n.Fields[place].Name, n.Fields[place].Type)
		}
	}
	return j
}

// P13.1 to P13.3: schemas and trees that hang on no rule.
func TestAny(t *testing.T) {
	g := grower{some: random(13)}
	checks, answers := map[api.Errno]int{}, map[api.Errno]int{}
	for n := range 2400 {
		g.odd = []int{20, 300, 1 << 20}[n%3]
		s, ok := g.schema()
		if !ok {
			continue
		}
		checks[checkFields(t, s)]++
		for at := range min(len(s.Nodes), 4) {
			_, e := check(t, s, at, g.tree(s, at, 0))
			answers[e]++
			_, e = check(t, s, at, tree(pick(&g, eachTree()...)))
			answers[e]++
		}
	}
	if checks[0] < 1000 || checks[35] < 100 || answers[0] < 2000 || answers[35] < 1000 {
		t.Errorf("just %v of schemas, %v of trees", checks, answers)
	}
}
