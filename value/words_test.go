package value_test

import (
	"bytes"
	"cmp"
	"fmt"
	"math"
	"math/big"
	"reflect"
	"slices"
	"strings"
	"testing"
	"unicode/utf8"
	"unsafe"

	"avocet/api"
	"avocet/schema"
	"avocet/value"
)

// has tells the parts that a value of a kind has, by their names.
func has(kind int) string {
	switch kind {
	case 2, 3, 4, 10:
		return " Int "
	case 5, 6:
		return " Bits "
	case 7, 8, 14:
		return " Bytes "
	case 9, 11:
		return " Items "
	case 12:
		return " Items Keys "
	case 13:
		return " Int Items "
	}
	return ""
}

// within tells whether a whole number is from one to another, both told by their digits.
func within(x *big.Int, from, to string) bool {
	a, _ := new(big.Int).SetString(from, 10)
	b, _ := new(big.Int).SetString(to, 10)
	return x.Cmp(a) >= 0 && x.Cmp(b) <= 0
}

// pair is a value, and the node that it has to be one of.
type pair struct {
	at int
	v  api.Value
}

// asked tells whether a value is one of a node by the chapter's words, if its Items are ones of the nodes that are told with them.
func asked(n api.Node, v api.Value) (items []pair, ok bool) {
	for f, part := range reflect.ValueOf(v).Fields() {
		nothing := part.IsZero() || part.Kind() == reflect.Slice && part.Len() == 0
		if f.Name != "Kind" && !nothing && !strings.Contains(has(v.Kind), " "+f.Name+" ") {
			return nil, false
		}
	}
	number, bits := big.NewInt(v.Int), new(big.Int).SetUint64(v.Bits)
	ok = v.Kind == n.Kind && len(v.Bytes) <= 20000 && len(v.Items) <= 300
	switch n.Kind {
	case 2:
		ok = ok && within(number, "0", "1")
	case 3:
		ok = ok && within(number, "-2147483648", "2147483647")
	case 5:
		ok = ok && within(bits, "0", "4294967295")
	case 8:
		ok = ok && utf8.Valid(v.Bytes)
	case 9:
		ok = ok && len(v.Items) == len(n.Fields)
		for place, f := range n.Fields {
			if ok {
				items = append(items, pair{f.Type, v.Items[place]})
			}
		}
	case 10:
		ok = ok && within(number, "0", fmt.Sprint(len(n.Symbols)-1))
	case 12:
		ok = ok && len(v.Keys) == len(v.Items)
		for _, key := range v.Keys {
			ok = ok && len(key) <= 20000 && utf8.ValidString(key)
		}
		fallthrough
	case 11:
		for _, item := range v.Items {
			items = append(items, pair{n.Items, item})
		}
	case 13:
		ok = ok && within(number, "0", fmt.Sprint(len(n.Branches)-1)) && len(v.Items) == 1
		if ok {
			items = append(items, pair{n.Branches[v.Int], v.Items[0]})
		}
	case 14:
		ok = ok && len(v.Bytes) == n.Size
	}
	return items, ok
}

// is tells whether a value is one of a node, by the words of P11.1: what is still to be asked waits in a list.
func is(s api.Schema, at int, v api.Value) bool {
	if !schema.Right(s) || at < 0 || at >= len(s.Nodes) {
		return false
	}
	wait := []pair{{at, v}}
	for len(wait) > 0 {
		next := wait[len(wait)-1]
		items, ok := asked(s.Nodes[next.at], next.v)
		if !ok {
			return false
		}
		wait = append(wait[:len(wait)-1], items...)
	}
	return true
}

// holds tells whether values of a kind are Records, Arrays, Maps or Unions.
func holds(kind int) bool { return kind == 9 || kind == 11 || kind == 12 || kind == 13 }

// deep is how deep a value is by the chapter's words, row by row: at each step what stands one deeper.
func deep(v api.Value) int {
	row := []api.Value{v}
	for deep := 0; ; deep++ {
		row = slices.DeleteFunc(row, func(v api.Value) bool { return !holds(v.Kind) })
		if len(row) == 0 {
			return deep
		}
		var below []api.Value
		for _, v := range row {
			below = append(below, v.Items...)
		}
		row = below
	}
}

// twin is a part alike, of memory of its own, in which each list has spare room that holds odd things.
func twin[T any](x T) T { return grown(reflect.ValueOf(x)).Interface().(T) }

func grown(v reflect.Value) reflect.Value {
	if b, ok := v.Interface().([]byte); ok {
		return reflect.ValueOf(append(bytes.Clone(b), 1, 2)[:len(b)])
	}
	out := reflect.New(v.Type()).Elem()
	switch v.Kind() {
	case reflect.Struct:
		for at := range v.NumField() {
			out.Field(at).Set(grown(v.Field(at)))
		}
	case reflect.Slice:
		size := v.Len()
		out.Set(reflect.MakeSlice(v.Type(), size+2, size+2))
		for at := range size {
			out.Index(at).Set(grown(v.Index(at)))
		}
		odd(out.Index(size))
		odd(out.Index(size + 1))
		out.SetLen(size)
	case reflect.String:
		out.SetString(strings.Clone(v.String()))
	default:
		out.Set(v)
	}
	return out
}

// odd lays odd things into a part.
func odd(v reflect.Value) {
	switch v.Kind() {
	case reflect.Struct:
		for at := range v.NumField() {
			odd(v.Field(at))
		}
	case reflect.Int, reflect.Int64:
		v.SetInt(1)
	case reflect.Uint64:
		v.SetUint(1)
	case reflect.String:
		v.SetString("odd")
	case reflect.Bool:
		v.SetBool(true)
	}
}

// equal tells whether two parts are alike in all; a list without elements is as one that is nil (rule 3). Room tells that lists' spare room is held against each other too.
func equal(a, b reflect.Value, room bool) bool {
	switch a.Kind() {
	case reflect.Struct:
		for at := range a.NumField() {
			if !equal(a.Field(at), b.Field(at), room) {
				return false
			}
		}
		return true
	case reflect.Slice:
		if a.Len() != b.Len() || room && a.Cap() != b.Cap() {
			return false
		}
		if room {
			a, b = a.Slice(0, a.Cap()), b.Slice(0, b.Cap())
		}
		if x, ok := a.Interface().([]byte); ok {
			return bytes.Equal(x, b.Bytes())
		}
		for at := range a.Len() {
			if !equal(a.Index(at), b.Index(at), room) {
				return false
			}
		}
		return true
	}
	return a.Equal(b)
}

// alike tells whether two values are alike in all.
func alike(a, b api.Value) bool { return equal(reflect.ValueOf(a), reflect.ValueOf(b), false) }

// untouched tells whether a twin is as another one, its lists' spare room too.
func untouched[T any](a, b T) bool { return equal(reflect.ValueOf(a), reflect.ValueOf(b), true) }

// block is memory: a list's, with its spare room, or a key's; and whose it is.
type block struct {
	from, to uintptr
	text     bool
	whose    int
}

// blocks are all lists and keys in a value that have any memory.
func blocks(v api.Value) []block {
	var out []block
	lay := func(from unsafe.Pointer, size uintptr, text bool) {
		if size > 0 {
			out = append(out, block{from: uintptr(from), to: uintptr(from) + size, text: text})
		}
	}
	lay(unsafe.Pointer(unsafe.SliceData(v.Bytes)), uintptr(cap(v.Bytes)), false)
	lay(unsafe.Pointer(unsafe.SliceData(v.Items)), uintptr(cap(v.Items))*unsafe.Sizeof(v), false)
	lay(unsafe.Pointer(unsafe.SliceData(v.Keys)), uintptr(cap(v.Keys))*unsafe.Sizeof(""), false)
	for _, key := range v.Keys {
		lay(unsafe.Pointer(unsafe.StringData(key)), uintptr(len(key)), true)
	}
	for _, item := range v.Items {
		out = append(out, blocks(item)...)
	}
	return out
}

// shared tells whether a copy has memory of what it was copied from, or two of its lists the same.
func shared(made, from api.Value) bool {
	all := blocks(from)
	for at, own := range blocks(made) {
		// Its keys are not held against each other.
		own.whose = at + 1
		if own.text {
			own.whose = -1
		}
		all = append(all, own)
	}
	slices.SortFunc(all, func(a, b block) int { return cmp.Compare(a.from, b.from) })
	for at, a := range all {
		for _, b := range all[at+1:] {
			if b.from >= a.to {
				break
			}
			if a.whose != b.whose {
				return true
			}
		}
	}
	return false
}

// said tells a thing in a line that is not too long.
func said(x any) string { return fmt.Sprintf("%.400s", fmt.Sprintf("%+v", x)) }

// random tells numbers that hang on no rule; the same each time.
func random(seed uint64) func(below int) int {
	return func(below int) int {
		seed += 0x9e3779b97f4a7c15
		x := seed
		x = (x ^ x>>30) * 0xbf58476d1ce4e5b9
		x = (x ^ x>>27) * 0x94d049bb133111eb
		return int((x ^ x>>31) % uint64(below))
	}
}

// shape lays a node, and all below it, behind a schema's nodes, and tells its place.
type shape func(s *api.Schema) int

// leaf is a node without kids.
func leaf(n api.Node) shape {
	return func(s *api.Schema) int {
		s.Nodes = append(s.Nodes, n)
		return len(s.Nodes) - 1
	}
}

func kind(kind int) shape { return leaf(api.Node{Kind: kind}) }

// enum is an Enum of so many symbols.
func enum(name string, symbols int) shape {
	n := api.Node{Kind: api.Enum, Name: name}
	for at := range symbols {
		n.Symbols = append(n.Symbols, fmt.Sprint("S", at))
	}
	return leaf(n)
}

func fixed(name string, size int) shape {
	return leaf(api.Node{Kind: api.Fixed, Name: name, Size: size})
}

// at is the node of a place, once more.
func at(place int) shape { return func(*api.Schema) int { return place } }

func list(of shape) shape {
	return func(s *api.Schema) int {
		place := kind(api.Array)(s)
		items := of(s)
		s.Nodes[place].Items = items
		return place
	}
}

func dict(of shape) shape {
	return func(s *api.Schema) int {
		place := list(of)(s)
		s.Nodes[place].Kind = api.Map
		return place
	}
}

func union(of ...shape) shape {
	return func(s *api.Schema) int {
		place := kind(api.Union)(s)
		for _, one := range of {
			branch := one(s)
			s.Nodes[place].Branches = append(s.Nodes[place].Branches, branch)
		}
		return place
	}
}

// record is a Record of fields of those types, with the names f0, f1 and so on.
func record(name string, of ...shape) shape {
	return func(s *api.Schema) int {
		place := leaf(api.Node{Kind: api.Record, Name: name})(s)
		for n, one := range of {
			f := api.Field{Name: fmt.Sprint("f", n)}
			f.Type = one(s)
			s.Nodes[place].Fields = append(s.Nodes[place].Fields, f)
		}
		return place
	}
}

// lay is the schema of a shape.
func lay(root shape) api.Schema {
	var s api.Schema
	s.Root = root(&s)
	return s
}

// number is a value of a kind that has a number alone.
func number(kind int, n int64) api.Value { return api.Value{Kind: kind, Int: n} }

// bits is a Float or a Double.
func bits(kind int, u uint64) api.Value { return api.Value{Kind: kind, Bits: u} }

// octets is a value of a kind that has bytes.
func octets(kind int, b string) api.Value { return api.Value{Kind: kind, Bytes: []byte(b)} }

// items is a Record or an Array.
func items(kind int, of ...api.Value) api.Value { return api.Value{Kind: kind, Items: of} }

// keyed is a Map with those keys, each ended by a |.
func keyed(keys string, of ...api.Value) api.Value {
	v := items(api.Map, of...)
	v.Keys = strings.Split(keys, "|")
	v.Keys = v.Keys[:len(v.Keys)-1]
	return v
}

// branch is a value of a Union.
func branch(place int64, of ...api.Value) api.Value {
	return api.Value{Kind: api.Union, Int: place, Items: of}
}

// times is a value so many times.
func times(n int, v api.Value) []api.Value { return slices.Repeat([]api.Value{v}, n) }

// with is a value alike that was changed.
func with(v api.Value, change func(v *api.Value)) api.Value {
	v = twin(v)
	change(&v)
	return v
}

// allKinds are all kinds, the numbers below and above them, and ones that are far from them.
func allKinds() []int {
	out := []int{math.MinInt, math.MinInt + 9, -1 << 32, -14, -9, -1, 16, 32, 64, 128, 256, 256 + 9, 1<<32 + 3, 1<<32 + 9, 1<<32 + 14, 1 << 62, math.MaxInt - 1, math.MaxInt}
	for kind := range 16 {
		out = append(out, kind)
	}
	return out
}

// farPlaces are numbers that are no places of a schema's nodes, whatever is there.
func farPlaces() []int {
	return []int{-1, -2, -200, -1 << 32, math.MinInt, math.MinInt + 1, 200, 201, 1 << 32, math.MaxInt - 1, math.MaxInt}
}

// checkValue holds Same, Deep and Copy of a value against the chapter's words.
func checkValue(t *testing.T, v api.Value) {
	t.Helper()
	v = twin(v)
	was := twin(v)
	if got := value.Deep(v); got != deep(v) {
		t.Fatalf("Deep(%s) = %d, not %d", said(v), got, deep(v))
	}
	made := value.Copy(v)
	if !alike(made, v) {
		t.Fatalf("Copy(%s) = %s", said(v), said(made))
	}
	if shared(made, v) {
		t.Fatalf("Copy(%s) has memory of what it was copied from, or one list's twice", said(v))
	}
	if !value.Same(v, was) || !value.Same(made, v) || !value.Same(v, v) {
		t.Fatalf("%s is not the same as one alike", said(v))
	}
	if !untouched(v, was) {
		t.Fatalf("%s was changed", said(was))
	}
}

// checkDiffer holds Same of two values that are not alike, both ways.
func checkDiffer(t *testing.T, a, b api.Value) {
	t.Helper()
	if alike(a, b) {
		t.Fatalf("%s is alike: nothing is asked", said(a))
	}
	if value.Same(a, b) || value.Same(b, a) {
		t.Fatalf("%s is the same as %s", said(a), said(b))
	}
}

// check holds Conforms against the chapter's words, and tells whether a value is one of a node.
func check(t *testing.T, s api.Schema, at int, v api.Value) bool {
	t.Helper()
	got := value.Conforms(s, at, v)
	if got != is(s, at, v) {
		t.Fatalf("Conforms(%s, %d, %s) is %v", said(s), at, said(v), got)
	}
	if got {
		checkFollows(t, s, at, v)
	}
	return got
}

// checkUntouched holds that Conforms changes neither a schema nor a value, their spare room neither.
func checkUntouched(t *testing.T, s api.Schema, at int, v api.Value) {
	t.Helper()
	s, v = twin(s), twin(v)
	wasS, wasV := twin(s), twin(v)
	if got := value.Conforms(s, at, v); got != is(wasS, at, wasV) || got != value.Conforms(s, at, v) {
		t.Fatalf("Conforms(%s, %d, %s) is %v", said(s), at, said(v), got)
	}
	if !untouched(s, wasS) || !untouched(v, wasV) {
		t.Fatalf("%s or %s was changed", said(wasS), said(wasV))
	}
}

// checkIs holds a value against the chapter's words, and whether it is one of the node against what is wanted.
func checkIs(t *testing.T, s api.Schema, at int, v api.Value, want bool) {
	t.Helper()
	if got := check(t, s, at, v); got != want {
		t.Fatalf("%s is one of the node %d of %s: %v", said(v), at, said(s), got)
	}
}

// checkFollows holds a value that is one of a node against what follows, P11.3.
func checkFollows(t *testing.T, s api.Schema, at int, v api.Value) {
	t.Helper()
	kids := schema.Kids(s.Nodes[at])
	for place, item := range v.Items {
		kid := kids[0]
		switch v.Kind {
		case api.Record:
			kid = kids[place]
		case api.Union:
			kid = kids[v.Int]
		}
		if !value.Conforms(s, kid, item) {
			t.Fatalf("%s is one of the node %d of %s, but its item %d is none of the kid %d", said(v), at, said(s), place, kid)
		}
	}
	for place, n := range s.Nodes {
		count := 0
		for _, branch := range schema.Kids(n) {
			if n.Kind == api.Union && !schema.Named(s.Nodes[branch].Kind) && value.Conforms(s, branch, v) {
				count++
			}
		}
		if count > 1 {
			t.Fatalf("%s is one of %d branches without names of the node %d of %s", said(v), count, place, said(s))
		}
	}
}

// stand is where a node and a value of it stand: shapes and values around them.
type stand struct {
	node  func(one shape) shape
	value func(v api.Value) api.Value
}

// stands are places where a node without kids may stand, and a value as a part of others.
func stands() []stand {
	null, text := kind(api.Null), kind(api.String)
	nothing, a := number(api.Null, 0), octets(api.String, "ä")
	return []stand{
		{func(one shape) shape { return one }, func(v api.Value) api.Value { return v }},
		{list, func(v api.Value) api.Value { return items(api.Array, v) }},
		{list, func(v api.Value) api.Value { return items(api.Array, v, v, v) }},
		{dict, func(v api.Value) api.Value { return keyed("|", v) }},
		{dict, func(v api.Value) api.Value { return keyed("b|a|", v, v) }},
		{func(one shape) shape { return union(one) }, func(v api.Value) api.Value { return branch(0, v) }},
		{func(one shape) shape { return union(enum("of.e", 2), one, record("of.r")) }, func(v api.Value) api.Value { return branch(1, v) }},
		{func(one shape) shape { return record("of.r", one) }, func(v api.Value) api.Value { return items(api.Record, v) }},
		{func(one shape) shape { return record("of.r", one, null, text) }, func(v api.Value) api.Value { return items(api.Record, v, nothing, a) }},
		{func(one shape) shape { return record("of.r", null, one, text) }, func(v api.Value) api.Value { return items(api.Record, nothing, v, a) }},
		{func(one shape) shape { return record("of.r", text, null, one) }, func(v api.Value) api.Value { return items(api.Record, a, nothing, v) }},
		{func(one shape) shape { return record("of.r", union(at(0), one)) }, func(v api.Value) api.Value {
			return items(api.Record, branch(0, items(api.Record, branch(0, items(api.Record, branch(1, v))))))
		}},
		{func(one shape) shape { return dict(list(record("of.r", list(at(2)), one))) }, func(v api.Value) api.Value {
			inner := items(api.Record, items(api.Array), v)
			return keyed("x|y|", items(api.Array, inner, items(api.Record, items(api.Array, inner, inner), v)), items(api.Array))
		}},
	}
}

// checkNode holds a node without kids and a value as checkIs does: alone, and as a part of others at each place.
func checkNode(t *testing.T, n api.Node, v api.Value, want bool) {
	t.Helper()
	for _, where := range stands() {
		checkIs(t, lay(where.node(leaf(n))), 0, where.value(v), want)
	}
}

// checkShape holds a value and the first node of a shape's schema as checkIs does.
func checkShape(t *testing.T, root shape, v api.Value, want bool) {
	t.Helper()
	checkIs(t, lay(root), 0, v, want)
}
