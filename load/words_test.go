package load_test

import (
	"bytes"
	"cmp"
	"fmt"
	"reflect"
	"slices"
	"strings"
	"testing"
	"unsafe"

	"avocet/api"
	"avocet/build"
	"avocet/dflt"
	"avocet/jparse"
	"avocet/jprint"
	"avocet/load"
	"avocet/schema"
)

// worded is what the words of P14.1 say of bytes.
func worded(b []byte) (api.Schema, api.Errno) {
	j, e := jparse.Parse(b)
	if e != 0 {
		return api.Schema{}, e
	}
	s, e := build.Build(j)
	if e != 0 {
		return api.Schema{}, e
	}
	if !sound(s) {
		return api.Schema{}, 35
	}
	return s, 0
}

// sound tells what the words of P14.2 say of a schema, default by default.
func sound(s api.Schema) bool {
	if !schema.Right(s) {
		return false
	}
	for _, n := range s.Nodes {
		for _, f := range n.Fields {
			if !f.Has {
				continue
			}
			if _, e := dflt.Of(s, f.Type, f.Default); e != 0 {
				return false
			}
		}
	}
	return true
}

// checkBytes holds Text of bytes against the chapter's words, and tells what it answered.
func checkBytes(t *testing.T, b []byte) (api.Schema, api.Errno) {
	t.Helper()
	b = twin(b)
	was := twin(b)
	want, refused := worded(b)
	for range 2 {
		got, e := load.Text(b)
		if e != refused || !alike(got, want) {
			t.Fatalf("Text(%.500q) = %s, %d, not %s, %d", was, line(got), e, line(want), refused)
		}
		if e == api.OK && !load.Sound(got) {
			t.Fatalf("Text(%.500q) = %s, which is not sound", was, line(got))
		}
		if shared(got, b) {
			t.Fatalf("Text(%.500q) has memory of what it was handed, or one list's twice", was)
		}
		if !untouched(b, was) {
			t.Fatalf("Text(%.500q) changed what it was handed", was)
		}
	}
	return want, refused
}

// checkRefused holds that a text is refused, with nothing told beside it.
func checkRefused(t *testing.T, text string, want api.Errno) {
	t.Helper()
	if _, e := checkBytes(t, []byte(text)); e != want {
		t.Errorf("Text(%.500q) is refused with %d, not %d", text, e, want)
	}
}

// checkLoaded holds that a text is loaded as the schema of a line.
func checkLoaded(t *testing.T, text, want string) {
	t.Helper()
	if s, e := checkBytes(t, []byte(text)); e != api.OK || line(s) != want {
		t.Errorf("Text(%.500q) = %s, %d, not %s", text, line(s), e, want)
	}
}

// row is a text, and the schema as which it is loaded, or what refuses it.
type row struct {
	text, line string
	refused    api.Errno
}

// checkRows holds each row's text against what it says.
func checkRows(t *testing.T, rows []row) {
	t.Helper()
	for _, r := range rows {
		if r.refused != api.OK {
			checkRefused(t, r.text, r.refused)
		} else {
			checkLoaded(t, r.text, r.line)
		}
	}
}

// checkSound holds Sound of a schema against the chapter's words and what is wanted.
func checkSound(t *testing.T, s api.Schema, want bool) {
	t.Helper()
	s = twin(s)
	was := twin(s)
	for range 2 {
		if got := load.Sound(s); got != want || got != sound(s) {
			t.Fatalf("Sound(%s) is %v", said(s), got)
		}
		if !untouched(s, was) {
			t.Fatalf("Sound(%s) changed what it was handed", said(was))
		}
	}
}

// said tells a schema in a line that is not too long, whatever it has.
func said(s api.Schema) string { return fmt.Sprintf("%.500s", fmt.Sprintf("%+v", s)) }

// line tells a schema in a line: its nodes, with other names behind ~, and defaults behind =.
func line(s api.Schema) string {
	words := []string{"none", "null", "boolean", "int", "long", "float", "double", "bytes", "string", "record", "enum", "array", "map", "union", "fixed"}
	out := []string{}
	for _, n := range s.Nodes {
		word := words[n.Kind]
		if n.Name != "" {
			word += " " + n.Name + others(n.Aliases)
		}
		for _, f := range n.Fields {
			word += fmt.Sprint(" ", f.Name, others(f.Aliases), ":", f.Type)
			if f.Has {
				b, _ := jprint.Print(f.Default)
				word += "=" + string(b)
			}
		}
		for _, symbol := range n.Symbols {
			word += " " + symbol
		}
		if n.Has {
			word += " =" + n.Default
		}
		for _, place := range n.Branches {
			word += fmt.Sprint(" ", place)
		}
		switch n.Kind {
		case 11, 12:
			word += fmt.Sprint(" ", n.Items)
		case 14:
			word += fmt.Sprint(" ", n.Size)
		}
		out = append(out, word)
	}
	return strings.Join(out, "; ")
}

func others(names []string) string {
	if len(names) == 0 {
		return ""
	}
	return "~" + strings.Join(names, "~")
}

// twin is a part alike, of memory of its own, in which each list has spare room that holds odd things.
func twin[T any](x T) T { return grown(reflect.ValueOf(x)).Interface().(T) }

func grown(v reflect.Value) reflect.Value {
	out := reflect.New(v.Type()).Elem()
	switch v.Kind() {
	case reflect.Struct:
		for at := range v.NumField() {
			out.Field(at).Set(grown(v.Field(at)))
		}
	case reflect.Slice:
		size := v.Len()
		out.Set(reflect.MakeSlice(v.Type(), size+2, size+2))
		for at := range size {
			out.Index(at).Set(grown(v.Index(at)))
		}
		odd(out.Index(size))
		odd(out.Index(size + 1))
		out.SetLen(size)
	case reflect.String:
		out.SetString(strings.Clone(v.String()))
	default:
		out.Set(v)
	}
	return out
}

// odd lays odd things into a part; a byte that would go on with a text.
func odd(v reflect.Value) {
	switch v.Kind() {
	case reflect.Struct:
		for at := range v.NumField() {
			odd(v.Field(at))
		}
	case reflect.Uint8:
		v.SetUint('"')
	case reflect.Int, reflect.Int64:
		v.SetInt(1)
	case reflect.String:
		v.SetString("odd")
	case reflect.Bool:
		v.SetBool(true)
	}
}

// alike tells whether two schemas are alike in all; a list without elements is as one that is nil (rule 3).
func alike(a, b api.Schema) bool { return equal(reflect.ValueOf(a), reflect.ValueOf(b), false) }

// untouched tells whether a twin is as another one, its lists' spare room too.
func untouched[T any](a, b T) bool { return equal(reflect.ValueOf(a), reflect.ValueOf(b), true) }

func equal(a, b reflect.Value, room bool) bool {
	switch a.Kind() {
	case reflect.Struct:
		for at := range a.NumField() {
			if !equal(a.Field(at), b.Field(at), room) {
				return false
			}
		}
		return true
	case reflect.Slice:
		if a.Len() != b.Len() || room && a.Cap() != b.Cap() {
			return false
		}
		if room {
			a, b = a.Slice(0, a.Cap()), b.Slice(0, b.Cap())
		}
		if x, ok := a.Interface().([]byte); ok {
			return bytes.Equal(x, b.Bytes())
		}
		for at := range a.Len() {
			if !equal(a.Index(at), b.Index(at), room) {
				return false
			}
		}
		return true
	}
	return a.Equal(b)
}

// block is memory: a list's, with its spare room, or a text's; and whose it is.
type block struct {
	from, to uintptr
	text     bool
	whose    int
}

// blocks are all lists and texts in a thing that have any memory.
func blocks(v reflect.Value) []block {
	var out []block
	switch v.Kind() {
	case reflect.Struct:
		for at := range v.NumField() {
			out = append(out, blocks(v.Field(at))...)
		}
	case reflect.Slice:
		if v.Cap() > 0 {
			from := v.Pointer()
			out = append(out, block{from: from, to: from + uintptr(v.Cap())*v.Type().Elem().Size()})
		}
		if v.Type().Elem().Kind() == reflect.Uint8 {
			return out
		}
		for at := range v.Len() {
			out = append(out, blocks(v.Index(at))...)
		}
	case reflect.String:
		if s := v.String(); s != "" {
			from := uintptr(unsafe.Pointer(unsafe.StringData(s)))
			out = append(out, block{from: from, to: from + uintptr(len(s)), text: true})
		}
	}
	return out
}

// shared tells whether a schema has memory of what it was made of, or two of its lists the same.
func shared(made api.Schema, from any) bool {
	all := blocks(reflect.ValueOf(from))
	for at, own := range blocks(reflect.ValueOf(made)) {
		// Its texts are not held against each other.
		own.whose = at + 1
		if own.text {
			own.whose = -1
		}
		all = append(all, own)
	}
	slices.SortFunc(all, func(a, b block) int { return cmp.Compare(a.from, b.from) })
	for at, a := range all {
		for _, b := range all[at+1:] {
			if b.from >= a.to {
				break
			}
			if a.whose != b.whose {
				return true
			}
		}
	}
	return false
}

// random tells numbers that hang on no rule; the same each time.
func random(seed uint64) func(below int) int {
	return func(below int) int {
		seed += 0x9e3779b97f4a7c15
		x := seed
		x = (x ^ x>>30) * 0xbf58476d1ce4e5b9
		x = (x ^ x>>27) * 0x94d049bb133111eb
		return int((x ^ x>>31) % uint64(below))
	}
}

// parsed is the tree of a text.
func parsed(t *testing.T, text string) api.Json {
	t.Helper()
	j, e := jparse.Parse([]byte(text))
	if e != api.OK {
		t.Fatalf("Parse(%s) is %d", text, e)
	}
	return j
}
