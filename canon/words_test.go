package canon_test

import (
	"bytes"
	"cmp"
	"encoding/json"
	"fmt"
	"reflect"
	"slices"
	"strings"
	"testing"
	"unsafe"

	"avocet/api"
	"avocet/canon"
	"avocet/schema"
)

// kindWords are the words of the kinds that have no more than that.
func kindWords() map[int]string {
	return map[int]string{1: "null", 2: "boolean", 3: "int", 4: "long", 5: "float", 6: "double", 7: "bytes", 8: "string"}
}

func named(kind int) bool { return kind == 9 || kind == 10 || kind == 14 }

// worded is what the words of P15.1 say of a schema.
func worded(s api.Schema) (string, api.Errno) {
	if !schema.Right(s) {
		return "", 2
	}
	form := formed(s, s.Root, map[string]bool{})
	if len(form) > 20000 {
		return "", 3
	}
	return form, 0
}

// formed is a node's form by the words, of any size; told are the names that were told ahead.
func formed(s api.Schema, place int, told map[string]bool) string {
	n := s.Nodes[place]
	if named(n.Kind) {
		if told[n.Name] {
			return fmt.Sprintf(`"%s"`, n.Name)
		}
		told[n.Name] = true
	}
	var parts []string
	switch n.Kind {
	case 9:
		for _, f := range n.Fields {
			parts = append(parts, fmt.Sprintf(`{"name":"%s","type":%s}`, f.Name, formed(s, f.Type, told)))
		}
		return fmt.Sprintf(`{"name":"%s","type":"record","fields":[%s]}`, n.Name, strings.Join(parts, ","))
	case 10:
		return fmt.Sprintf(`{"name":"%s","type":"enum","symbols":["%s"]}`, n.Name, strings.Join(n.Symbols, `","`))
	case 11:
		return fmt.Sprintf(`{"type":"array","items":%s}`, formed(s, n.Items, told))
	case 12:
		return fmt.Sprintf(`{"type":"map","values":%s}`, formed(s, n.Items, told))
	case 13:
		for _, branch := range n.Branches {
			parts = append(parts, formed(s, branch, told))
		}
		return fmt.Sprintf(`[%s]`, strings.Join(parts, ","))
	case 14:
		return fmt.Sprintf(`{"name":"%s","type":"fixed","size":%d}`, n.Name, n.Size)
	}
	return fmt.Sprintf(`"%s"`, kindWords()[n.Kind])
}

// stripped is what the words of P15.2 say of a schema.
func stripped(s api.Schema) api.Schema {
	s = twin(s)
	for at := range s.Nodes {
		bare(reflect.ValueOf(&s.Nodes[at]).Elem())
		for place := range s.Nodes[at].Fields {
			bare(reflect.ValueOf(&s.Nodes[at].Fields[place]).Elem())
		}
	}
	return s
}

// bare takes what is stripped out of a node or a field.
func bare(v reflect.Value) {
	for _, part := range []string{"Aliases", "Has", "Default"} {
		v.FieldByName(part).SetZero()
	}
}

// checkForm holds Form of a schema against the chapter's words, and tells what it answered.
func checkForm(t *testing.T, s api.Schema) (string, api.Errno) {
	t.Helper()
	s = twin(s)
	was := twin(s)
	want, refused := worded(s)
	for range 2 {
		got, e := canon.Form(s)
		if e != refused || string(got) != want {
			t.Fatalf("Form(%s) = %.600s, %d, not %.600s, %d", said(was), got, e, want, refused)
		}
		if shared(got, s) {
			t.Fatalf("Form(%s) has memory of what it was handed", said(was))
		}
		// What is answered is the caller's: the next answer is another one.
		spoil(reflect.ValueOf(&got).Elem())
		if !untouched(s, was) {
			t.Fatalf("Form(%s) changed what it was handed", said(was))
		}
	}
	if refused == api.OK {
		checkText(t, want)
	}
	return want, refused
}

// checkText holds that a form is a text, without white bytes, and as the library would make it tight.
func checkText(t *testing.T, form string) {
	t.Helper()
	var tight bytes.Buffer
	if e := json.Compact(&tight, []byte(form)); e != nil || tight.String() != form || strings.ContainsAny(form, " \t\r\n") {
		t.Fatalf("%.600s is no text, or has white bytes", form)
	}
}

// checkRow holds that a schema has a form.
func checkRow(t *testing.T, s api.Schema, want string) {
	t.Helper()
	if got, e := checkForm(t, s); e != api.OK || got != want {
		t.Errorf("Form(%s) = %s, %d, not %s", said(s), got, e, want)
	}
}

// checkShape holds that what is laid has a form.
func checkShape(t *testing.T, root shape, want string) {
	t.Helper()
	checkRow(t, lay(root), want)
}

// checkRefused holds that a schema's form is refused, with no bytes beside it.
func checkRefused(t *testing.T, s api.Schema, want api.Errno) {
	t.Helper()
	if got, e := canon.Form(s); e != want || len(got) != 0 {
		t.Errorf("Form(%s) = %.600s, %d, not refused with %d", said(s), got, e, want)
	}
	checkForm(t, s)
}

// checkStrip holds Strip of a schema against the chapter's words, and tells what it answered.
func checkStrip(t *testing.T, s api.Schema) api.Schema {
	t.Helper()
	s = twin(s)
	was := twin(s)
	want := stripped(s)
	for range 2 {
		got := canon.Strip(s)
		if !alike(got, want) {
			t.Fatalf("Strip(%s) = %s", said(was), said(got))
		}
		if shared(got, s) {
			t.Fatalf("Strip(%s) has memory of what it was handed, or one list's twice", said(was))
		}
		spoil(reflect.ValueOf(&got).Elem())
		if !untouched(s, was) {
			t.Fatalf("Strip(%s) changed what it was handed, or what it answered did", said(was))
		}
	}
	got := canon.Strip(s)
	spoil(reflect.ValueOf(&s).Elem())
	if !alike(got, want) {
		t.Fatalf("%s was changed, and so was what was stripped", said(was))
	}
	return want
}

// said tells a schema in a line that is not too long, whatever it has.
func said(s api.Schema) string { return fmt.Sprintf("%.600s", fmt.Sprintf("%+v", s)) }

// twin is a part alike, of memory of its own, in which each list has spare room that holds odd things.
func twin[T any](x T) T { return grown(reflect.ValueOf(x)).Interface().(T) }

func grown(v reflect.Value) reflect.Value {
	out := reflect.New(v.Type()).Elem()
	switch v.Kind() {
	case reflect.Struct:
		for at := range v.NumField() {
			out.Field(at).Set(grown(v.Field(at)))
		}
	case reflect.Slice:
		size := v.Len()
		out.Set(reflect.MakeSlice(v.Type(), size+2, size+2))
		for at := range size {
			out.Index(at).Set(grown(v.Index(at)))
		}
		odd(out.Index(size))
		odd(out.Index(size + 1))
		out.SetLen(size)
	case reflect.String:
		out.SetString(strings.Clone(v.String()))
	default:
		out.Set(v)
	}
	return out
}

// odd lays odd things into a part.
func odd(v reflect.Value) {
	switch v.Kind() {
	case reflect.Struct:
		for at := range v.NumField() {
			odd(v.Field(at))
		}
	case reflect.Int, reflect.Int64:
		v.SetInt(1)
	case reflect.String:
		v.SetString("odd")
	case reflect.Bool:
		v.SetBool(true)
	}
}

// alike tells whether two schemas are alike in all; a list without elements is as one that is nil (rule 3).
func alike(a, b api.Schema) bool { return equal(reflect.ValueOf(a), reflect.ValueOf(b), false) }

// untouched tells whether a twin is as another one, its lists' spare room too.
func untouched(a, b api.Schema) bool { return equal(reflect.ValueOf(a), reflect.ValueOf(b), true) }

func equal(a, b reflect.Value, room bool) bool {
	switch a.Kind() {
	case reflect.Struct:
		for at := range a.NumField() {
			if !equal(a.Field(at), b.Field(at), room) {
				return false
			}
		}
		return true
	case reflect.Slice:
		if a.Len() != b.Len() || room && a.Cap() != b.Cap() {
			return false
		}
		if room {
			a, b = a.Slice(0, a.Cap()), b.Slice(0, b.Cap())
		}
		for at := range a.Len() {
			if !equal(a.Index(at), b.Index(at), room) {
				return false
			}
		}
		return true
	}
	return a.Equal(b)
}

// spoil changes each part of a value, where it stands, its lists' spare room too.
func spoil(v reflect.Value) {
	switch v.Kind() {
	case reflect.Struct:
		for at := range v.NumField() {
			spoil(v.Field(at))
		}
	case reflect.Slice:
		all := v.Slice(0, v.Cap())
		for at := range all.Len() {
			spoil(all.Index(at))
		}
	case reflect.Uint8:
		v.SetUint(v.Uint() ^ 5)
	case reflect.Int, reflect.Int64:
		v.SetInt(v.Int() ^ 5)
	case reflect.String:
		v.SetString(v.String() + "spoiled")
	case reflect.Bool:
		v.SetBool(!v.Bool())
	}
}

// block is memory: a list's, with its spare room, or a text's; and whose it is.
type block struct {
	from, to uintptr
	text     bool
	whose    int
}

// blocks are all lists and texts in a thing that have any memory.
func blocks(v reflect.Value) []block {
	var out []block
	switch v.Kind() {
	case reflect.Struct:
		for at := range v.NumField() {
			out = append(out, blocks(v.Field(at))...)
		}
	case reflect.Slice:
		if v.Cap() > 0 {
			from := v.Pointer()
			out = append(out, block{from: from, to: from + uintptr(v.Cap())*v.Type().Elem().Size()})
		}
		if v.Type().Elem().Kind() == reflect.Uint8 {
			return out
		}
		for at := range v.Len() {
			out = append(out, blocks(v.Index(at))...)
		}
	case reflect.String:
		if s := v.String(); s != "" {
			from := uintptr(unsafe.Pointer(unsafe.StringData(s)))
			out = append(out, block{from: from, to: from + uintptr(len(s)), text: true})
		}
	}
	return out
}

// shared tells whether what was made has memory of what it was made of, or two of its lists the same.
func shared(made any, from api.Schema) bool {
	all := blocks(reflect.ValueOf(from))
	for at, own := range blocks(reflect.ValueOf(made)) {
		// Its texts are not held against each other.
		own.whose = at + 1
		if own.text {
			own.whose = -1
		}
		all = append(all, own)
	}
	slices.SortFunc(all, func(a, b block) int { return cmp.Compare(a.from, b.from) })
	for at, a := range all {
		for _, b := range all[at+1:] {
			if b.from >= a.to {
				break
			}
			if a.whose != b.whose {
				return true
			}
		}
	}
	return false
}

// random tells numbers that hang on no rule; the same each time.
func random(seed uint64) func(below int) int {
	return func(below int) int {
		seed += 0x9e3779b97f4a7c15
		x := seed
		x = (x ^ x>>30) * 0xbf58476d1ce4e5b9
		x = (x ^ x>>27) * 0x94d049bb133111eb
		return int((x ^ x>>31) % uint64(below))
	}
}

// shape lays a node, and all below it, behind a schema's nodes, and tells its place.
type shape func(s *api.Schema) int

// leaf is a node without kids.
func leaf(n api.Node) shape {
	return func(s *api.Schema) int {
		s.Nodes = append(s.Nodes, n)
		return len(s.Nodes) - 1
	}
}

func kind(kind int) shape { return leaf(api.Node{Kind: kind}) }

func enum(name string, symbols ...string) shape {
	return leaf(api.Node{Kind: api.Enum, Name: name, Symbols: symbols})
}

func fixed(name string, size int) shape {
	return leaf(api.Node{Kind: api.Fixed, Name: name, Size: size})
}

// again is the node of a name, once more.
func again(name string) shape {
	return func(s *api.Schema) int { return schema.Find(*s, name) }
}

func list(of shape) shape {
	return func(s *api.Schema) int {
		place := kind(api.Array)(s)
		items := of(s)
		s.Nodes[place].Items = items
		return place
	}
}

func dict(of shape) shape {
	return func(s *api.Schema) int {
		place := list(of)(s)
		s.Nodes[place].Kind = api.Map
		return place
	}
}

func union(of ...shape) shape {
	return func(s *api.Schema) int {
		place := kind(api.Union)(s)
		for _, one := range of {
			branch := one(s)
			s.Nodes[place].Branches = append(s.Nodes[place].Branches, branch)
		}
		return place
	}
}

// record is a Record of fields of those types, with the names f0, f1 and so on.
func record(name string, of ...shape) shape {
	return func(s *api.Schema) int {
		place := leaf(api.Node{Kind: api.Record, Name: name})(s)
		for n, one := range of {
			f := api.Field{Name: fmt.Sprint("f", n)}
			f.Type = one(s)
			s.Nodes[place].Fields = append(s.Nodes[place].Fields, f)
		}
		return place
	}
}

// lay is the schema of a shape.
func lay(root shape) api.Schema {
	var s api.Schema
	s.Root = root(&s)
	return s
}

// within is a shape in so many Arrays.
func within(many int, one shape) shape {
	for range many {
		one = list(one)
	}
	return one
}

// with is a schema alike that was changed.
func with(s api.Schema, change func(s *api.Schema)) api.Schema {
	s = twin(s)
	change(&s)
	return s
}

// long is a name of so many bytes.
func long(size int) string { return strings.Repeat("x", size) }
