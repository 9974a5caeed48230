package dflt_test

import (
	"bytes"
	"cmp"
	"fmt"
	"math"
	"math/big"
	"reflect"
	"slices"
	"strings"
	"testing"
	"unsafe"

	"avocet/api"
	"avocet/build"
	"avocet/dflt"
	"avocet/jparse"
	"avocet/jprint"
	"avocet/schema"
	"avocet/value"
)

// wish is where a value is to be laid, of which node, and the tree that says it.
type wish struct {
	into *api.Value
	at   int
	j    api.Json
}

// holds tells whether values of a kind are Records, Arrays, Maps or Unions.
func holds(kind int) bool { return kind == 9 || kind == 11 || kind == 12 || kind == 13 }

// worded is what the words of P13.1 say of a node and a tree: the value is laid row by row, at each step what is in one other more.
func worded(s api.Schema, at int, j api.Json) (api.Value, api.Errno) {
	if !schema.Right(s) || at < 0 || at >= len(s.Nodes) || !jprint.Right(j) {
		return api.Value{}, 2
	}
	var v api.Value
	parts := 0
	row := []wish{{&v, at, j}}
	for others := 0; len(row) > 0; others++ {
		var next []wish
		for _, w := range row {
			parts++
			below, ok := laid(s, w)
			if !ok || parts > 1000 || others > 19 && holds(s.Nodes[w.at].Kind) {
				return api.Value{}, 35
			}
			next = append(next, below...)
		}
		row = next
	}
	return v, 0
}

// laid lays a value, its Items aside, and tells what these are to be; false: the tree says none, whatever stands in it.
func laid(s api.Schema, w wish) (below []wish, ok bool) {
	n, v, j := s.Nodes[w.at], w.into, w.j
	v.Kind = n.Kind
	switch n.Kind {
	case 1:
		ok = j.Kind == 1
	case 2:
		v.Int, ok = j.Int, j.Kind == 2
	case 3:
		v.Int, ok = j.Int, j.Kind == 3 && j.Int == int64(int32(j.Int))
	case 4:
		v.Int, ok = j.Int, j.Kind == 3
	case 5:
		near, _ := new(big.Float).SetPrec(24).SetInt64(j.Int).Float32()
		v.Bits, ok = uint64(math.Float32bits(near)), j.Kind == 3
	case 6:
		near, _ := new(big.Float).SetPrec(53).SetInt64(j.Int).Float64()
		v.Bits, ok = math.Float64bits(near), j.Kind == 3
	case 8:
		v.Bytes, ok = []byte(j.Text), j.Kind == 4 && len(j.Text) <= 20000
	case 7, 14:
		ok = j.Kind == 4
		for _, c := range j.Text {
			v.Bytes, ok = append(v.Bytes, byte(c)), ok && c <= 255
		}
		ok = ok && (n.Kind == 7 && len(v.Bytes) <= 20000 || n.Kind == 14 && len(v.Bytes) == n.Size)
	case 10:
		v.Int, ok = int64(slices.Index(n.Symbols, j.Text)), j.Kind == 4 && slices.Contains(n.Symbols, j.Text)
	default:
		var said []api.Json
		said, ok = parts(n, j)
		v.Items = make([]api.Value, len(said))
		if n.Kind == 12 {
			v.Keys = j.Keys
		}
		for place, one := range said {
			below = append(below, wish{&v.Items[place], kid(n, place), one})
		}
	}
	return below, ok
}

// parts are the trees that say a value's Items; false: there are none such.
func parts(n api.Node, j api.Json) (said []api.Json, ok bool) {
	switch n.Kind {
	case 9:
		at := map[string]api.Json{}
		for place, key := range j.Keys {
			at[key] = j.Items[place]
		}
		for _, f := range n.Fields {
			one, there := at[f.Name]
			if !there && !f.Has {
				return nil, false
			}
			if !there {
				one = f.Default
			}
			said = append(said, one)
		}
		return said, j.Kind == 6
	case 11:
		return j.Items, j.Kind == 5 && len(j.Items) <= 300
	case 12:
		long := slices.ContainsFunc(j.Keys, func(key string) bool { return len(key) > 20000 })
		return j.Items, j.Kind == 6 && len(j.Items) <= 300 && !long
	}
	return []api.Json{j}, true
}

// kid is the node that a value's Item at a place has to be one of; of a Union its first branch's.
func kid(n api.Node, place int) int {
	switch n.Kind {
	case 9:
		return n.Fields[place].Type
	case 13:
		return n.Branches[0]
	}
	return n.Items
}

// line is a value as a line: numbers, bits and bytes behind the kind's word, of a Record (), of an Array [], of a Map {}, of a Union <>; what its kind does not have is not told.
func line(v api.Value) string {
	switch v.Kind {
	case 1:
		return "null"
	case 2, 3, 4, 10:
		return fmt.Sprint([]string{2: "boolean", 3: "int", 4: "long", 10: "enum"}[v.Kind], " ", v.Int)
	case 5:
		return fmt.Sprintf("float %08x", v.Bits)
	case 6:
		return fmt.Sprintf("double %016x", v.Bits)
	case 7:
		return fmt.Sprintf("bytes %x", v.Bytes)
	case 8:
		return fmt.Sprintf("string %s", v.Bytes)
	case 14:
		return fmt.Sprintf("fixed %x", v.Bytes)
	}
	var items []string
	for place, item := range v.Items {
		key := ""
		if v.Kind == 12 {
			key = v.Keys[place] + ": "
		}
		items = append(items, key+line(item))
	}
	all := strings.Join(items, ", ")
	switch v.Kind {
	case 9:
		return "(" + all + ")"
	case 11:
		return "[" + all + "]"
	case 12:
		return "{" + all + "}"
	case 13:
		return strings.Repeat("not the first: ", int(v.Int)) + "<" + all + ">"
	}
	return ""
}

// tree is the tree of a JSON text.
func tree(text string) api.Json {
	j, e := jparse.Parse([]byte(text))
	if e != api.OK {
		panic(fmt.Sprint(e, " of ", text))
	}
	return j
}

// schemaOf is the schema of a tree.
func schemaOf(j api.Json) api.Schema {
	s, e := build.Build(j)
	if e != api.OK {
		panic(fmt.Sprint(e, " of ", said(j)))
	}
	return s
}

// of is the schema of a JSON text.
func of(text string) api.Schema { return schemaOf(tree(text)) }

// filled is the tree of a JSON text, with other trees in the place of the texts $0, $1 and so on.
func filled(form string, with ...api.Json) api.Json {
	return fill(tree(form), with)
}

func fill(j api.Json, with []api.Json) api.Json {
	for n, other := range with {
		if j.Kind == api.JText && j.Text == fmt.Sprint("$", n) {
			return other
		}
	}
	j.Items = slices.Clone(j.Items)
	for at, item := range j.Items {
		j.Items[at] = fill(item, with)
	}
	return j
}

// text is the tree of a text.
func text(s string) api.Json { return api.Json{Kind: api.JText, Text: s} }

// number is the tree of a number.
func number(n int64) api.Json { return api.Json{Kind: api.JInt, Int: n} }

// list is the tree of a list.
func list(items ...api.Json) api.Json { return api.Json{Kind: api.JList, Items: items} }

// times is a tree so many times.
func times(n int, j api.Json) []api.Json { return slices.Repeat([]api.Json{j}, n) }

// numbered is the tree of an object whose keys are k0, k1 and so on.
func numbered(items ...api.Json) api.Json {
	j := api.Json{Kind: api.JObj, Items: items}
	for n := range items {
		j.Keys = append(j.Keys, fmt.Sprint("k", n))
	}
	return j
}

// said tells a thing in a line that is not too long.
func said(x any) string {
	if j, ok := x.(api.Json); ok {
		if b, e := jprint.Print(j); e == api.OK {
			x = string(b)
		}
	}
	return fmt.Sprintf("%.500s", fmt.Sprintf("%+v", x))
}

// checkAnswer holds an answer against the one that is wanted; from is what the call was handed.
func checkAnswer(t *testing.T, what func() string, got, want api.Value, e, refused api.Errno, from ...any) {
	t.Helper()
	if e != refused || !alike(got, want) {
		t.Fatalf("%s = %s, %d, not %s, %d", what(), said(got), e, said(want), refused)
	}
	if e == api.OK && shared(got, from...) {
		t.Fatalf("%s has memory of what it was handed, or one list's twice", what())
	}
}

// check holds Of against the chapter's words, and tells what it answered.
func check(t *testing.T, s api.Schema, at int, j api.Json) (api.Value, api.Errno) {
	t.Helper()
	what := func() string { return fmt.Sprintf("Of(%s, %d, %s)", said(s), at, said(j)) }
	s, j = twin(s), twin(j)
	wasS, wasJ := twin(s), twin(j)
	want, refused := worded(s, at, j)
	for range 2 {
		got, e := dflt.Of(s, at, j)
		checkAnswer(t, what, got, want, e, refused, s, j)
		if e == api.OK && (!value.Conforms(s, at, got) || value.Deep(got) > 20) {
			t.Fatalf("%s = %s, which is no value of the node, or too deep", what(), said(got))
		}
	}
	if !untouched(s, wasS) || !untouched(j, wasJ) {
		t.Fatalf("%s changed what it was handed", what())
	}
	return want, refused
}

// checkIs holds Of against the chapter's words, and against the line that is wanted; nothing: the tree says no value.
func checkIs(t *testing.T, s api.Schema, at int, j api.Json, want string) {
	t.Helper()
	v, e := check(t, s, at, j)
	if want == "" && e != 35 || want != "" && (e != 0 || line(v) != want) {
		t.Fatalf("Of(%s, %d, %s) = %s, %d, not %.500s", said(s), at, said(j), said(line(v)), e, want)
	}
}

// fieldWorded is what the words of P13.2 say of a field's default.
func fieldWorded(s api.Schema, record, field int) (api.Value, api.Errno) {
	if !schema.Right(s) || record < 0 || record >= len(s.Nodes) || s.Nodes[record].Kind != 9 || field < 0 || field >= len(s.Nodes[record].Fields) {
		return api.Value{}, 2
	}
	f := s.Nodes[record].Fields[field]
	if !f.Has {
		return api.Value{}, 60
	}
	return worded(s, f.Type, f.Default)
}

// farPlaces are numbers that are no places of nodes or fields, whatever is there.
func farPlaces() []int {
	return []int{-1, -2, -41, -1 << 32, math.MinInt, 200, 201, 1 << 32, 1<<32 + 1, math.MaxInt}
}

// checkField holds Field against the chapter's words, and tells what it answered.
func checkField(t *testing.T, s api.Schema, record, field int) (api.Value, api.Errno) {
	t.Helper()
	want, refused := fieldWorded(s, record, field)
	got, e := dflt.Field(s, record, field)
	checkAnswer(t, func() string { return fmt.Sprintf("Field(%s, %d, %d)", said(s), record, field) }, got, want, e, refused, s)
	return want, refused
}

// checkFields holds Check of a schema, and Field of each of its fields, against the chapter's words; and tells what Check answered.
func checkFields(t *testing.T, s api.Schema) api.Errno {
	t.Helper()
	s = twin(s)
	was := twin(s)
	want := api.Errno(0)
	if !schema.Right(s) {
		want = 2
	}
	for record, n := range s.Nodes {
		for field := range n.Fields {
			if _, e := checkField(t, s, record, field); e == 35 {
				want = 35
			}
		}
	}
	if got := dflt.Check(s); got != want {
		t.Fatalf("Check(%s) = %d, not %d", said(s), got, want)
	}
	if !untouched(s, was) {
		t.Fatalf("%s was changed", said(was))
	}
	return want
}

// checkNoFields holds that Field refuses places that are none of a schema's fields, or nodes, with ErrArg.
func checkNoFields(t *testing.T, s api.Schema) {
	t.Helper()
	checkNone := func(record, field int) {
		if _, e := checkField(t, s, record, field); e != 2 {
			t.Fatalf("Field(%s, %d, %d) = %d", said(s), record, field, e)
		}
	}
	for record, n := range s.Nodes {
		for _, field := range append(farPlaces(), len(n.Fields), len(n.Fields)+1, 40) {
			checkNone(record, field)
		}
	}
	for _, record := range append(farPlaces(), len(s.Nodes), len(s.Nodes)+1) {
		for _, field := range append(farPlaces(), 0, 1, 2, 39) {
			checkNone(record, field)
		}
	}
}

// stand is where a node, $0, may stand, and what a tree says of it, $1; and what its value, $, is a part of.
type stand struct{ schema, tree, line string }

// stands are places of nodes, and of trees, that are at most seven deep.
func stands() []stand {
	return []stand{
		{`"$0"`, `"$1"`, `$`},
		{`{"type":"array","items":"$0"}`, `["$1"]`, `[$]`},
		{`{"type":"array","items":"$0"}`, `["$1","$1","$1"]`, `[$, $, $]`},
		{`{"type":"map","values":"$0"}`, `{"":"$1"}`, `{: $}`},
		{`{"type":"map","values":"$0"}`, `{"b":"$1","a":"$1"}`, `{b: $, a: $}`},
		{`{"type":"record","name":"of.around","fields":[{"name":"f","type":"$0"}]}`, `{"f":"$1"}`, `($)`},
		{`{"type":"record","name":"of.around","fields":[{"name":"f","type":"$0"},{"name":"g","type":"null"},{"name":"h","type":"string"}]}`, `{"f":"$1","g":null,"h":"ä"}`, `($, null, string ä)`},
		{`{"type":"record","name":"of.around","fields":[{"name":"g","type":"null"},{"name":"f","type":"$0"},{"name":"h","type":"string"}]}`, `{"h":"ä","f":"$1","g":null}`, `(null, $, string ä)`},
		{`{"type":"record","name":"of.around","fields":[{"name":"h","type":"string"},{"name":"g","type":"null"},{"name":"f","type":"$0"}]}`, `{"f":"$1","no":0,"g":null,"h":"ä"}`, `(string ä, null, $)`},
		{`{"type":"record","name":"of.around","fields":[{"name":"f","type":"$0","default":"$1"}]}`, `{}`, `($)`},
		{`{"type":"record","name":"of.around","fields":[{"name":"f","type":"$0"}]}`, `{"f":"$1","g":"$1"}`, `($)`},
		{`{"type":"array","items":{"type":"record","name":"of.around","fields":[{"name":"g","type":{"type":"record","name":"of.inside","fields":[{"name":"f","type":"$0","default":"$1"}]},"default":{}},{"name":"h","type":"of.inside"}]}}`, `[{"h":{"f":"$1"}},{"h":{},"g":{"f":"$1"}}]`, `[(($), ($)), (($), ($))]`},
		{`{"type":"map","values":{"type":"array","items":[{"type":"record","name":"of.around","fields":[{"name":"more","type":["null","of.around"],"default":null},{"name":"f","type":"$0"}]}]}}`, `{"x":[{"f":"$1"},{"more":null,"f":"$1"}],"y":[]}`, `{x: [<(<null>, $)>, <(<null>, $)>], y: []}`},
	}
}

// branches are places of nodes that are no unions.
func branches() []stand {
	return []stand{
		{`["$0"]`, `"$1"`, `<$>`},
		{`["$0",{"type":"record","name":"of.around","fields":[]},{"type":"enum","name":"of.kind","symbols":["A"]}]`, `"$1"`, `<$>`},
		{`{"type":"record","name":"of.around","fields":[{"name":"f","type":["$0"],"default":"$1"},{"name":"g","type":{"type":"array","items":["of.around","null"]},"default":[]}]}`, `{"g":[{},{"f":"$1"}]}`, `(<$>, [<(<$>, [])>, <(<$>, [])>])`},
	}
}

// checkNode holds a tree of a node against the chapter's words and the line that is wanted: at each place of both.
func checkNode(t *testing.T, node, j api.Json, want string) {
	t.Helper()
	all := stands()
	if node.Kind != api.JList {
		all = append(all, branches()...)
	}
	for _, where := range all {
		checkAt(t, where, node, j, want)
	}
}

// checkAt does so at one place.
func checkAt(t *testing.T, where stand, node, j api.Json, want string) {
	t.Helper()
	s := schemaOf(filled(where.schema, node, j))
	all := ""
	if want != "" {
		all = strings.ReplaceAll(where.line, "$", want)
	}
	checkIs(t, s, 0, filled(where.tree, node, j), all)
	if e := checkFields(t, s); e != api.OK && want != "" {
		t.Fatalf("Check(%s) = %d", said(s), e)
	}
}

// row is what a tree says of a schema's first node: a line, or nothing.
type row struct{ schema, tree, line string }

// checkRows holds each row's tree against the chapter's words, and against its line.
func checkRows(t *testing.T, rows []row) {
	t.Helper()
	for _, r := range rows {
		checkNode(t, tree(r.schema), tree(r.tree), r.line)
	}
}

// twin is a part alike, of memory of its own, in which each list has spare room that holds odd things.
func twin[T any](x T) T { return grown(reflect.ValueOf(x)).Interface().(T) }

func grown(v reflect.Value) reflect.Value {
	out := reflect.New(v.Type()).Elem()
	switch v.Kind() {
	case reflect.Struct:
		for at := range v.NumField() {
			out.Field(at).Set(grown(v.Field(at)))
		}
	case reflect.Slice:
		size := v.Len()
		out.Set(reflect.MakeSlice(v.Type(), size+2, size+2))
		for at := range size {
			out.Index(at).Set(grown(v.Index(at)))
		}
		odd(out.Index(size))
		odd(out.Index(size + 1))
		out.SetLen(size)
	case reflect.String:
		out.SetString(strings.Clone(v.String()))
	default:
		out.Set(v)
	}
	return out
}

// odd lays odd things into a part.
func odd(v reflect.Value) {
	switch v.Kind() {
	case reflect.Struct:
		for at := range v.NumField() {
			odd(v.Field(at))
		}
	case reflect.Int, reflect.Int64:
		v.SetInt(1)
	case reflect.String:
		v.SetString("odd")
	case reflect.Bool:
		v.SetBool(true)
	}
}

// alike tells whether two values are alike in all; a list without elements is as one that is nil (rule 3).
func alike(a, b api.Value) bool { return equal(reflect.ValueOf(a), reflect.ValueOf(b), false) }

// untouched tells whether a twin is as another one, its lists' spare room too.
func untouched[T any](a, b T) bool { return equal(reflect.ValueOf(a), reflect.ValueOf(b), true) }

func equal(a, b reflect.Value, room bool) bool {
	switch a.Kind() {
	case reflect.Struct:
		for at := range a.NumField() {
			if !equal(a.Field(at), b.Field(at), room) {
				return false
			}
		}
		return true
	case reflect.Slice:
		if a.Len() != b.Len() || room && a.Cap() != b.Cap() {
			return false
		}
		if room {
			a, b = a.Slice(0, a.Cap()), b.Slice(0, b.Cap())
		}
		if x, ok := a.Interface().([]byte); ok {
			return bytes.Equal(x, b.Bytes())
		}
		for at := range a.Len() {
			if !equal(a.Index(at), b.Index(at), room) {
				return false
			}
		}
		return true
	}
	return a.Equal(b)
}

// block is memory: a list's, with its spare room, or a text's; and whose it is.
type block struct {
	from, to uintptr
	text     bool
	whose    int
}

// blocks are all lists and texts in a thing that have any memory.
func blocks(v reflect.Value) []block {
	var out []block
	switch v.Kind() {
	case reflect.Struct:
		for at := range v.NumField() {
			out = append(out, blocks(v.Field(at))...)
		}
	case reflect.Slice:
		if v.Cap() > 0 {
			from := v.Pointer()
			out = append(out, block{from: from, to: from + uintptr(v.Cap())*v.Type().Elem().Size()})
		}
		if v.Type().Elem().Kind() == reflect.Uint8 {
			return out
		}
		for at := range v.Len() {
			out = append(out, blocks(v.Index(at))...)
		}
	case reflect.String:
		if s := v.String(); s != "" {
			from := uintptr(unsafe.Pointer(unsafe.StringData(s)))
			out = append(out, block{from: from, to: from + uintptr(len(s)), text: true})
		}
	}
	return out
}

// shared tells whether a value has memory of what it was made of, or two of its lists the same.
func shared(made api.Value, from ...any) bool {
	var all []block
	for _, x := range from {
		all = append(all, blocks(reflect.ValueOf(x))...)
	}
	for at, own := range blocks(reflect.ValueOf(made)) {
		// Its keys are not held against each other.
		own.whose = at + 1
		if own.text {
			own.whose = -1
		}
		all = append(all, own)
	}
	slices.SortFunc(all, func(a, b block) int { return cmp.Compare(a.from, b.from) })
	for at, a := range all {
		for _, b := range all[at+1:] {
			if b.from >= a.to {
				break
			}
			if a.whose != b.whose {
				return true
			}
		}
	}
	return false
}

// random tells numbers that hang on no rule; the same each time.
func random(seed uint64) func(below int) int {
	return func(below int) int {
		seed += 0x9e3779b97f4a7c15
		x := seed
		x = (x ^ x>>30) * 0xbf58476d1ce4e5b9
		x = (x ^ x>>27) * 0x94d049bb133111eb
		return int((x ^ x>>31) % uint64(below))
	}
}
