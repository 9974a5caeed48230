package value_test

import (
	"fmt"
	"math"
	"slices"
	"strings"
	"testing"

	"avocet/api"
	"avocet/schema"
	"avocet/value"
)

// The example.
func TestExample(t *testing.T) {
	ints := list(kind(api.Int))
	checkShape(t, ints, items(api.Array, number(api.Int, 1), number(api.Int, 2)), true)
	checkShape(t, ints, items(api.Array, number(api.Int, 1), number(api.Long, 2)), false)
	checkShape(t, ints, items(api.Array, number(api.Long, 1)), false)
}

// eachKind is a schema with a node of each kind at the kind's place; 0 is a Record of all of them.
func eachKind() api.Schema {
	return lay(record("all",
		kind(1), kind(2), kind(3), kind(4), kind(5), kind(6), kind(7), kind(8), record("r"), enum("e", 3), list(at(9)), dict(at(9)), union(at(9)), fixed("x", 1),
	))
}

// eachValue is a value of each kind that is one of eachKind's node at the kind's place.
func eachValue() []api.Value {
	none := items(api.Record)
	return []api.Value{
		{},
		{Kind: api.Null}, number(api.Boolean, 0), number(api.Int, 0), number(api.Long, 0), bits(api.Float, 0), bits(api.Double, 0), octets(api.Bytes, "a"), octets(api.String, "a"),
		none, number(api.Enum, 0), items(api.Array), items(api.Map), branch(0, none), octets(api.Fixed, "a"),
	}
}

// P11.1: values of each kind at nodes of each kind.
func TestKindsAtKinds(t *testing.T) {
	s := eachKind()
	values := eachValue()
	all := items(api.Record, values[1:]...)
	checkIs(t, s, 0, all, true)
	for at := 1; at <= 14; at++ {
		if s.Nodes[at].Kind != at {
			t.Fatalf("the node %d is a %d", at, s.Nodes[at].Kind)
		}
		for kind := 1; kind <= 14; kind++ {
			checkIs(t, s, at, values[kind], kind == at)
			// The same parts as a value of another kind, here and as a part.
			for _, of := range allKinds() {
				v := values[kind]
				v.Kind = of
				// Parts that are alike are right of several kinds.
				want := of == at && is(s, at, v)
				checkIs(t, s, at, v, want)
				checkIs(t, s, 0, with(all, func(all *api.Value) { all.Items[at-1] = v }), want)
			}
		}
	}
}

// Rule 4: neither a schema nor a value is changed by what asks them.
func TestUntouched(t *testing.T) {
	s := eachKind()
	values := append(eachValue(), shapes()...)
	for _, v := range append(values, items(api.Record, eachValue()[1:]...)) {
		checkUntouched(t, s, 0, v)
		checkUntouched(t, s, v.Kind, v)
		checkUntouched(t, s, 11, items(api.Array, items(api.Record), v))
		checkValue(t, v)
		for _, where := range stands() {
			checkUntouched(t, lay(where.node(kind(api.Long))), 0, where.value(v))
		}
	}
}

// parts are the parts of values, each with something or nothing in it.
func parts() []api.Value {
	var out []api.Value
	for _, n := range []int64{0, 1} {
		for _, u := range []uint64{0, 1} {
			for _, b := range []string{"", "a"} {
				for _, of := range [][]api.Value{nil, {}, {items(api.Record)}} {
					for _, keys := range [][]string{nil, {}, {"a"}} {
						out = append(out, api.Value{Int: n, Bits: u, Bytes: []byte(b), Items: of, Keys: keys})
					}
				}
			}
		}
	}
	return out
}

// P11.1: all mixtures of parts, of each kind, at nodes of each kind.
func TestMixtures(t *testing.T) {
	s := eachKind()
	right := make([]int, 15)
	for _, v := range parts() {
		for _, kind := range allKinds() {
			v.Kind = kind
			for at := 1; at <= 14; at++ {
				if check(t, s, at, v) {
					right[at]++
				}
			}
		}
	}
	// Of Items and Keys each is empty in two ways; of an Int, Bits and Bytes each there are two, of which a Union has one, as has a Fixed.
	if want := []int{0, 4, 8, 8, 8, 8, 8, 8, 8, 4, 8, 6, 5, 2, 4}; !slices.Equal(right, want) {
		t.Errorf("by kinds %v are right, not %v", right, want)
	}
}

// P11.1: a value with what only other kinds have, in each part.
func TestOtherParts(t *testing.T) {
	others := map[string][]func(v *api.Value){
		"Int": {
			func(v *api.Value) { v.Int = 1 }, func(v *api.Value) { v.Int = -1 }, func(v *api.Value) { v.Int = 1 << 32 }, func(v *api.Value) { v.Int = math.MinInt64 }, func(v *api.Value) { v.Int = math.MaxInt64 },
		},
		"Bits":  {func(v *api.Value) { v.Bits = 1 }, func(v *api.Value) { v.Bits = 1 << 32 }, func(v *api.Value) { v.Bits = 1 << 63 }, func(v *api.Value) { v.Bits = math.MaxUint64 }},
		"Bytes": {func(v *api.Value) { v.Bytes = []byte{0} }, func(v *api.Value) { v.Bytes = []byte("ab") }},
		"Items": {
			func(v *api.Value) { v.Items = times(1, api.Value{}) }, func(v *api.Value) { v.Items = times(2, api.Value{Kind: api.Null}) }, func(v *api.Value) { v.Items = times(1, items(api.Record)) },
		},
		"Keys": {func(v *api.Value) { v.Keys = []string{""} }, func(v *api.Value) { v.Keys = []string{"a", "b"} }},
	}
	s := eachKind()
	values := eachValue()
	for kind := 1; kind <= 14; kind++ {
		for part, changes := range others {
			if strings.Contains(has(kind), " "+part+" ") {
				continue
			}
			for _, change := range changes {
				v := with(values[kind], change)
				checkIs(t, s, kind, v, false)
				// With each other part beside it, too.
				for _, more := range others {
					for _, other := range more {
						checkIs(t, s, kind, with(v, func(v *api.Value) { other(v); change(v) }), false)
					}
				}
				if !holds(kind) {
					checkNode(t, s.Nodes[kind], v, false)
				}
			}
		}
		if !holds(kind) {
			checkNode(t, s.Nodes[kind], values[kind], true)
		}
	}
}

// P11.1, rule 3: parts that are empty are as those that are nil.
func TestEmptyParts(t *testing.T) {
	s := eachKind()
	values := append(eachValue(), api.Value{Kind: -1}, api.Value{Kind: 15})
	for _, v := range values {
		for way := range 8 {
			changed := v
			if len(v.Bytes) == 0 {
				changed.Bytes = [][]byte{nil, {}}[way&1]
			}
			if len(v.Items) == 0 {
				changed.Items = [][]api.Value{nil, {}}[way>>1&1]
			}
			if len(v.Keys) == 0 {
				changed.Keys = [][]string{nil, {}}[way>>2&1]
			}
			for at := 1; at <= 14; at++ {
				checkIs(t, s, at, changed, v.Kind == at)
				if got := value.Conforms(s, at, changed); got != (v.Kind == at) {
					t.Errorf("Conforms of %+v at %d is %v", changed, at, got)
				}
			}
			if !value.Same(v, changed) || !value.Same(changed, v) || !alike(value.Copy(changed), v) || value.Deep(changed) != deep(v) {
				t.Errorf("%+v is not as %+v", changed, v)
			}
		}
	}
	// In lists of parts too.
	a := items(api.Array, api.Value{Kind: api.Map, Items: []api.Value{}, Keys: nil, Bytes: []byte{}}, api.Value{Kind: api.Map})
	b := items(api.Array, api.Value{Kind: api.Map, Keys: []string{}}, api.Value{Kind: api.Map, Bytes: []byte{}, Items: []api.Value{}})
	if !value.Same(a, b) || !value.Same(b, a) {
		t.Error("what is empty deep within is not as what is nil")
	}
	checkShape(t, list(dict(kind(api.Null))), a, true)
	checkShape(t, list(dict(kind(api.Null))), b, true)
	// Texts without bytes, and a Fixed without any.
	for _, b := range [][]byte{nil, {}, make([]byte, 0, 9)} {
		checkNode(t, api.Node{Kind: api.Bytes}, api.Value{Kind: api.Bytes, Bytes: b}, true)
		checkNode(t, api.Node{Kind: api.String}, api.Value{Kind: api.String, Bytes: b}, true)
		checkNode(t, api.Node{Kind: api.Fixed, Name: "x"}, api.Value{Kind: api.Fixed, Bytes: b}, true)
		checkNode(t, api.Node{Kind: api.Fixed, Name: "x", Size: 1}, api.Value{Kind: api.Fixed, Bytes: b}, false)
	}
}

// numbers are whole numbers at and beside what may be a bound, and others.
func numbers() []int64 {
	out := []int64{math.MinInt64, math.MinInt64 + 1, math.MaxInt64 - 1, math.MaxInt64}
	for digit := range 63 {
		for _, near := range []int64{-2, -1, 0, 1, 2} {
			out = append(out, 1<<digit+near, -1<<digit+near)
		}
	}
	next := random(1)
	for range 50 {
		out = append(out, int64(next(math.MaxInt))-int64(next(math.MaxInt)))
	}
	return out
}

// P11.1: Booleans, Ints and Longs.
func TestNumbers(t *testing.T) {
	for _, n := range numbers() {
		checkShape(t, kind(api.Boolean), number(api.Boolean, n), n == 0 || n == 1)
		checkShape(t, kind(api.Int), number(api.Int, n), -1<<31 <= n && n < 1<<31)
		checkShape(t, kind(api.Long), number(api.Long, n), true)
		checkShape(t, kind(api.Null), number(api.Null, n), n == 0)
		checkShape(t, kind(api.Float), number(api.Float, n), n == 0)
	}
	for n, want := range map[int64]bool{0: true, 1: true, 2: false, -1: false, 3: false, 256: false, 257: false, 1 << 32: false, 1<<32 + 1: false, math.MinInt64: false} {
		checkNode(t, api.Node{Kind: api.Boolean}, number(api.Boolean, n), want)
	}
	for n, want := range map[int64]bool{-2147483649: false, -2147483648: true, -1: true, 0: true, 2147483647: true, 2147483648: false, 1 << 32: false, math.MaxInt64: false, math.MinInt64: false} {
		checkNode(t, api.Node{Kind: api.Int}, number(api.Int, n), want)
		checkNode(t, api.Node{Kind: api.Long}, number(api.Long, n), true)
	}
}

// P11.1: Floats and Doubles.
func TestBits(t *testing.T) {
	for _, n := range numbers() {
		u := uint64(n)
		checkShape(t, kind(api.Float), bits(api.Float, u), u>>32 == 0)
		checkShape(t, kind(api.Double), bits(api.Double, u), true)
		checkShape(t, kind(api.Long), bits(api.Long, u), u == 0)
	}
	// No number, without an end, and a nought with a sign are bits like others.
	for u, want := range map[uint64]bool{0: true, 0x7f800000: true, 0x7fc00001: true, 0x80000000: true, 1<<32 - 1: true, 1 << 32: false, 1<<32 + 1: false, 0x7ff0000000000000: false, math.MaxUint64: false} {
		checkNode(t, api.Node{Kind: api.Float}, bits(api.Float, u), want)
		checkNode(t, api.Node{Kind: api.Double}, bits(api.Double, u), true)
	}
}

// P11.1: Bytes and Strings of just MaxBytes bytes, and beside it.
func TestSizes(t *testing.T) {
	for _, size := range []int{0, 1, 2, 300, 301, 1000, 1001, 19998, 19999, 20000, 20001, 20002, 40000, 65536, 1 << 20} {
		x := strings.Repeat("x", size)
		for _, where := range stands()[:4] {
			checkIs(t, lay(where.node(kind(api.Bytes))), 0, where.value(octets(api.Bytes, x)), size <= 20000)
			checkIs(t, lay(where.node(kind(api.String))), 0, where.value(octets(api.String, x)), size <= 20000)
		}
		checkShape(t, kind(api.Bytes), octets(api.Bytes, strings.Repeat("\xff", size)), size <= 20000)
		// Characters of several bytes are counted by their bytes.
		for _, c := range []string{"ä", "€", "😀"} {
			if size >= len(c) {
				x := strings.Repeat(c, size/len(c)) + strings.Repeat("x", size%len(c))
				checkShape(t, kind(api.String), octets(api.String, x), size <= 20000)
				checkShape(t, kind(api.String), octets(api.String, x[1:]), false)
			}
		}
	}
}

// texts are bytes, and whether they are just characters.
func texts() map[string]bool {
	out := map[string]bool{
		"": true, "\x00": true, "a": true, "\x7f": true, "\u0080": true, "\u07ff": true, "\u0800": true, "\ud7ff": true, "\ue000": true, "\uffff": true, "\U00010000": true, "\U0010ffff": true, "\ufffd": true, "aä€😀": true,
		// Surrogates, alone and in pairs.
		"\xed\xa0\x80": false, "\xed\xaf\xbf": false, "\xed\xb0\x80": false, "\xed\xbf\xbf": false, "\xed\xa0\xbd\xed\xb8\x80": false,
		// More bytes than the number needs.
		"\xc0\x80": false, "\xc1\xbf": false, "\xe0\x80\x80": false, "\xe0\x9f\xbf": false, "\xf0\x80\x80\x80": false, "\xf0\x8f\xbf\xbf": false,
		// Numbers that are too great.
		"\xf4\x90\x80\x80": false, "\xf5\x80\x80\x80": false, "\xf7\xbf\xbf\xbf": false, "\xf8\x88\x80\x80\x80": false, "\xfc\x84\x80\x80\x80\x80": false, "\xfe": false, "\xff": false,
		// Bytes that no character begins with, or that end too soon.
		"\x80": false, "\xbf": false, "\xc2": false, "\xdf": false, "\xe2\x82": false, "\xe2": false, "\xf0\x9f\x98": false, "\xf0\x9f": false, "\xf0": false, "\xc2a": false, "\xe2\x82a": false, "\xc2\xc2": false, "\xf0\x9f\x98\xf0": false, "ä\xa4": false,
	}
	for x := range 256 {
		out[string([]byte{byte(x)})] = x < 128
	}
	return out
}

// P11.1: a String's bytes, which are characters or none; Bytes and a Fixed have any.
func TestStrings(t *testing.T) {
	for x, want := range texts() {
		checkNode(t, api.Node{Kind: api.String}, octets(api.String, x), want)
		checkNode(t, api.Node{Kind: api.Bytes}, octets(api.Bytes, x), true)
		checkNode(t, api.Node{Kind: api.Fixed, Name: "x", Size: len(x)}, octets(api.Fixed, x), true)
		for _, x := range []string{"a" + x, x + "a", "ä" + x, x + "ä", "😀" + x + "€", strings.Repeat("a", 9000) + x + strings.Repeat("b", 9000)} {
			checkShape(t, kind(api.String), octets(api.String, x), want)
			checkShape(t, kind(api.Bytes), octets(api.Bytes, x), true)
		}
		// The last bytes that there is room for.
		long := strings.Repeat("a", 20000-len(x)) + x
		checkShape(t, kind(api.String), octets(api.String, long), want)
		checkShape(t, kind(api.String), octets(api.String, "a"+long), false)
	}
}

// P11.1: a Fixed's bytes, as many as its Size.
func TestFixed(t *testing.T) {
	for _, size := range []int{0, 1, 2, 3, 4, 7, 8, 255, 256, 300, 999, 1000} {
		n := api.Node{Kind: api.Fixed, Name: "x", Size: size}
		for _, have := range []int{0, 1, 2, 3, 4, 5, size - 1, size, size + 1, size + 256, 2 * size, 1000, 1001, 20000, 20001} {
			if have >= 0 {
				checkShape(t, leaf(n), octets(api.Fixed, strings.Repeat("\xff", have)), have == size)
			}
		}
		checkNode(t, n, octets(api.Fixed, strings.Repeat("a", size)), true)
		checkNode(t, n, octets(api.Fixed, strings.Repeat("a", size+1)), false)
		if size > 0 {
			checkNode(t, n, octets(api.Fixed, strings.Repeat("a", size-1)), false)
		}
	}
	// A size that may not be is none of a schema, whatever the bytes.
	for _, size := range []int{-1, 1001} {
		checkNode(t, api.Node{Kind: api.Fixed, Name: "x", Size: size}, octets(api.Fixed, strings.Repeat("a", max(0, size))), false)
	}
}

// P11.1: an Enum's Int, the place of a symbol.
func TestEnums(t *testing.T) {
	for symbols := 1; symbols <= 40; symbols++ {
		s := lay(enum("e", symbols))
		for _, place := range []int64{-1, 0, 1, 2, int64(symbols) - 1, int64(symbols), int64(symbols) + 1, 39, 40, 256, 1 << 32, 1<<32 + 1, -1 << 32, -1 << 63, 1<<63 - 1, -int64(symbols)} {
			checkIs(t, s, 0, number(api.Enum, place), place >= 0 && place < int64(symbols))
		}
		last := int64(symbols) - 1
		for place, want := range map[int64]bool{-1: false, 0: true, last: true, last + 1: false, 1 << 32: false} {
			checkNode(t, s.Nodes[0], number(api.Enum, place), want)
		}
		// A default, and other names, change nothing.
		n := s.Nodes[0]
		n.Has, n.Default, n.Aliases = true, "S0", []string{"a", "b"}
		checkNode(t, n, number(api.Enum, last), true)
		checkNode(t, n, number(api.Enum, last+1), false)
		checkNode(t, n, number(api.Enum, -1), false)
	}
}

// P11.1: a Record's Items: how many there are.
func TestRecordSizes(t *testing.T) {
	for fields := range 41 {
		root := record("r", slices.Repeat([]shape{kind(api.Null)}, fields)...)
		for have := range 43 {
			checkShape(t, root, items(api.Record, times(have, api.Value{Kind: api.Null})...), have == fields)
		}
		for _, have := range []int{256 + fields, 300, 301} {
			checkShape(t, root, items(api.Record, times(have, api.Value{Kind: api.Null})...), false)
		}
	}
	s := lay(record("r", kind(api.Null), kind(api.Null)))
	if value.Conforms(s, 0, items(api.Record, make([]api.Value, 1<<20)...)) {
		t.Error("far too many items are a Record's")
	}
}

// P11.1: a Record's Items, each one of its field's Type, in order.
func TestRecordItems(t *testing.T) {
	values := eachValue()[1:]
	s := eachKind()
	checkIs(t, s, 0, items(api.Record, values...), true)
	for a := range values {
		// Another field's Type, here and there, and one that is left out.
		for b := range values {
			swapped := slices.Clone(values)
			swapped[a], swapped[b] = values[b], values[a]
			checkIs(t, s, 0, items(api.Record, swapped...), a == b)
			swapped[b] = values[b]
			checkIs(t, s, 0, items(api.Record, swapped...), a == b)
		}
		checkIs(t, s, 0, items(api.Record, slices.Delete(slices.Clone(values), a, a+1)...), false)
		checkIs(t, s, 0, items(api.Record, slices.Insert(slices.Clone(values), a, values[a])...), false)
	}
	// Each of two fields, in both orders.
	for a := 1; a <= 14; a++ {
		for b := 1; b <= 14; b++ {
			s := eachKind()
			s.Nodes[0].Fields = []api.Field{{Name: "a", Type: a}, {Name: "b", Type: b}}
			s = reordered(s)
			if !schema.Right(s) {
				t.Fatalf("%s may not be", said(s))
			}
			va, vb := eachValue()[a], eachValue()[b]
			checkIs(t, s, 0, items(api.Record, va, vb), true)
			checkIs(t, s, 0, items(api.Record, vb, va), a == b)
			checkIs(t, s, 0, items(api.Record, va), false)
			checkIs(t, s, 0, items(api.Record, va, vb, vb), false)
			checkIs(t, s, 0, items(api.Record), false)
		}
	}
	// Names, defaults and other names change nothing.
	n := api.Node{Kind: api.Record, Name: "r", Aliases: []string{"q"}, Fields: []api.Field{{Name: "z", Type: 1, Has: true, Default: api.Json{Kind: api.JNull}}, {Name: "a", Type: 2, Aliases: []string{"b"}}}}
	named := api.Schema{Nodes: []api.Node{n, {Kind: api.Null}, {Kind: api.Long}}}
	checkIs(t, named, 0, items(api.Record, api.Value{Kind: api.Null}, number(api.Long, 7)), true)
	checkIs(t, named, 0, items(api.Record, number(api.Long, 7)), false)
	checkIs(t, named, 0, items(api.Record, number(api.Long, 7), api.Value{Kind: api.Null}), false)
}

// reordered is a schema alike of which the nodes stand in order; what none leads to is left out.
func reordered(s api.Schema) api.Schema {
	places := map[int]int{}
	var out api.Schema
	var move func(at int) int
	move = func(at int) int {
		if to, ok := places[at]; ok && schema.Named(s.Nodes[at].Kind) {
			return to
		}
		to := len(out.Nodes)
		places[at] = to
		n := twin(s.Nodes[at])
		out.Nodes = append(out.Nodes, n)
		for place := range n.Fields {
			n.Fields[place].Type = move(n.Fields[place].Type)
		}
		for place := range n.Branches {
			n.Branches[place] = move(n.Branches[place])
		}
		if n.Kind == api.Array || n.Kind == api.Map {
			n.Items = move(n.Items)
		}
		out.Nodes[to] = n
		return to
	}
	move(s.Root)
	return out
}

// P11.1: an Array's and a Map's Items: none, just MaxItems, and one more; one of them of another node.
func TestItems(t *testing.T) {
	keys := func(n int) []string {
		var out []string
		for at := range n {
			out = append(out, fmt.Sprint("k", at))
		}
		return out
	}
	for _, size := range []int{0, 1, 2, 3, 10, 11, 40, 41, 255, 256, 299, 300, 301, 302, 556, 1000} {
		of := times(size, number(api.Int, 5))
		array := items(api.Array, of...)
		dicted := api.Value{Kind: api.Map, Items: of, Keys: keys(size)}
		checkShape(t, list(kind(api.Int)), array, size <= 300)
		checkShape(t, dict(kind(api.Int)), dicted, size <= 300)
		checkShape(t, list(list(kind(api.Int))), items(api.Array, items(api.Array), array), size <= 300)
		checkShape(t, list(dict(kind(api.Int))), items(api.Array, dicted), size <= 300)
		checkShape(t, record("r", kind(api.Int), list(kind(api.Int))), items(api.Record, number(api.Int, 1), array), size <= 300)
		checkShape(t, union(kind(api.Int), dict(kind(api.Int))), branch(1, dicted), size <= 300)
		for _, place := range []int{0, 1, size / 2, size - 2, size - 1} {
			if place < 0 || place >= size {
				continue
			}
			for _, other := range []api.Value{{}, {Kind: api.Null}, number(api.Long, 5), number(api.Int, 1<<31), {Kind: api.Int, Bits: 1}, items(api.Array)} {
				change := func(v *api.Value) { v.Items[place] = other }
				checkShape(t, list(kind(api.Int)), with(array, change), false)
				checkShape(t, dict(kind(api.Int)), with(dicted, change), false)
			}
		}
	}
	if value.Conforms(lay(list(kind(api.Null))), 0, items(api.Array, times(1<<20, api.Value{Kind: api.Null})...)) {
		t.Error("far too many items are an Array's")
	}
	// A Record has its fields' items, however many an Array might have; other kinds none.
	for at, v := range eachValue()[1:] {
		kind := at + 1
		checkIs(t, eachKind(), kind, with(v, func(v *api.Value) { v.Items = times(300, items(api.Record)) }), kind == api.Array)
		checkIs(t, eachKind(), kind, with(v, func(v *api.Value) { v.Items, v.Keys = times(300, items(api.Record)), keys(300) }), kind == api.Map)
	}
}

// P11.1: a Map's Keys: how many there are.
func TestKeySizes(t *testing.T) {
	s := lay(dict(kind(api.Null)))
	sizes := []int{0, 1, 2, 3, 4, 256, 298, 299, 300, 301, 302}
	for _, have := range sizes {
		for _, keys := range sizes {
			v := api.Value{Kind: api.Map, Items: times(have, api.Value{Kind: api.Null}), Keys: slices.Repeat([]string{"k"}, keys)}
			checkIs(t, s, 0, v, have == keys && have <= 300)
		}
	}
}

// P11.1: a Map's Keys: the same twice, that are no characters, of just MaxBytes bytes, and beside it.
func TestKeys(t *testing.T) {
	null := api.Value{Kind: api.Null}
	s := lay(dict(kind(api.Null)))
	one := func(keys ...string) api.Value {
		return api.Value{Kind: api.Map, Items: times(len(keys), null), Keys: keys}
	}
	for _, keys := range [][]string{{"a", "a"}, {"", ""}, {"a", "b", "a"}, {"ä", "ä", "ä"}, {"b", "a"}, {""}, {"", "a", ""}, {"not a name", "a.b", "9", "\x00", "\n"}, slices.Repeat([]string{"a"}, 300)} {
		checkIs(t, s, 0, one(keys...), true)
	}
	for x, want := range texts() {
		for _, keys := range [][]string{{x}, {x, "a"}, {"a", x}, {"a", x, "b"}, {"a", "b", "c", x}, {"a" + x}, {x + "a", x}, {"ä", "€" + x + "😀"}, append(slices.Repeat([]string{"k"}, 299), x), append([]string{x}, slices.Repeat([]string{"k"}, 299)...)} {
			checkIs(t, s, 0, one(keys...), want)
		}
		checkShape(t, record("r", kind(api.Long), dict(dict(kind(api.Null)))), items(api.Record, number(api.Long, 1), keyed("a|b|", one("c"), one("d", x))), want)
	}
	for _, size := range []int{100, 101, 1000, 1001, 19999, 20000, 20001, 20002, 65536, 1 << 20} {
		for _, c := range []string{"k", "ä", "€", "😀"} {
			x := strings.Repeat(c, size/len(c)) + strings.Repeat("k", size%len(c))
			for _, keys := range [][]string{{x}, {x, "a"}, {"a", x}, {"a", x, "b"}, {x, x, x}} {
				checkIs(t, s, 0, one(keys...), size <= 20000)
			}
			checkIs(t, s, 0, one("a", x[:size-1]+"\xff"), false)
		}
	}
}

// P11.1: a Union's Int, and its one item.
func TestUnions(t *testing.T) {
	// No kind is there twice, but for those with names.
	branches := []struct {
		node shape
		v    api.Value
	}{
		{kind(api.Null), api.Value{Kind: api.Null}}, {kind(api.Int), number(api.Int, 1)}, {enum("e", 2), number(api.Enum, 1)}, {kind(api.Long), number(api.Long, 1)}, {list(kind(api.Int)), items(api.Array, number(api.Int, 1))},
		{fixed("x", 2), octets(api.Fixed, "ab")}, {kind(api.Bytes), octets(api.Bytes, "ab")}, {fixed("y", 3), octets(api.Fixed, "abc")}, {record("r"), items(api.Record)}, {record("r2", kind(api.Null)), items(api.Record, api.Value{Kind: api.Null})},
	}
	for size := 1; size <= len(branches); size++ {
		var of []shape
		for _, one := range branches[:size] {
			of = append(of, one.node)
		}
		for _, root := range []struct {
			shape shape
			value func(v api.Value) api.Value
		}{
			{union(of...), func(v api.Value) api.Value { return v }},
			{list(union(of...)), func(v api.Value) api.Value { return items(api.Array, v, v) }},
			{record("top", kind(api.Null), union(of...)), func(v api.Value) api.Value { return items(api.Record, api.Value{Kind: api.Null}, v) }},
		} {
			s := lay(root.shape)
			if !schema.Right(s) {
				t.Fatalf("%s may not be", said(s))
			}
			for at, one := range branches {
				for _, place := range []int64{math.MinInt64, -1 << 32, -256, -1, 0, 1, 2, 3, 4, 5, 6, 7, 8, 9, 10, 11, 256, 1 << 32, 1<<32 + int64(at), math.MaxInt64} {
					checkIs(t, s, 0, root.value(branch(place, one.v)), at < size && int64(at) == place)
					checkIs(t, s, 0, root.value(branch(place)), false)
					checkIs(t, s, 0, root.value(branch(place, one.v, one.v)), false)
					checkIs(t, s, 0, root.value(branch(place, one.v, api.Value{})), false)
				}
				// The branch's value alone is no Union's, nor is one in two.
				checkIs(t, s, 0, root.value(one.v), false)
				checkIs(t, s, 0, root.value(branch(int64(at), branch(int64(at), one.v))), false)
				checkIs(t, s, 0, root.value(branch(0, api.Value{})), false)
			}
		}
	}
	// Branches of one kind are told apart by the place alone.
	enums := union(enum("a", 2), enum("b", 5), fixed("x", 1), fixed("y", 2))
	for place, want := range map[int64][]bool{0: {true, true, false, false}, 1: {true, true, true, false}} {
		for at, n := range []int64{0, 1, 2, 5} {
			checkShape(t, enums, branch(place, number(api.Enum, n)), want[at])
			checkShape(t, enums, branch(place+2, number(api.Enum, n)), false)
		}
		checkShape(t, enums, branch(place+2, octets(api.Fixed, "a")), place == 0)
		checkShape(t, enums, branch(place+2, octets(api.Fixed, "ab")), place == 1)
	}
}

// nested is a value of one that is a part of itself, so many times.
func nested(n int, last api.Value, around func(v api.Value) api.Value) api.Value {
	for range n {
		last = around(last)
	}
	return last
}

// P11.1, P11.2: records that are parts of themselves by a union, an array or a map, however deep.
func TestPartsOfThemselves(t *testing.T) {
	null := api.Value{Kind: api.Null}
	for _, self := range []struct {
		root   shape
		last   api.Value
		around func(v api.Value) api.Value
		each   int
	}{
		{record("r", union(kind(api.Null), at(0))), items(api.Record, branch(0, null)), func(v api.Value) api.Value { return items(api.Record, branch(1, v)) }, 2},
		{record("r", kind(api.Long), union(at(0), kind(api.Null))), items(api.Record, number(api.Long, 1), branch(1, null)), func(v api.Value) api.Value { return items(api.Record, number(api.Long, 2), branch(0, v)) }, 2},
		{record("r", list(at(0)), kind(api.Int)), items(api.Record, items(api.Array), number(api.Int, 7)), func(v api.Value) api.Value {
			return items(api.Record, items(api.Array, items(api.Record, items(api.Array), number(api.Int, 7)), v), number(api.Int, 7))
		}, 2},
		{record("r", dict(at(0))), items(api.Record, keyed("")), func(v api.Value) api.Value { return items(api.Record, keyed("k|", v)) }, 2},
		{record("r", list(union(dict(at(0)), kind(api.Null)))), items(api.Record, items(api.Array)), func(v api.Value) api.Value {
			return items(api.Record, items(api.Array, branch(1, null), branch(0, keyed("a|b|", v, items(api.Record, items(api.Array))))))
		}, 4},
	} {
		s := lay(self.root)
		if !schema.Right(s) {
			t.Fatalf("%s may not be", said(s))
		}
		for _, n := range []int{0, 1, 2, 5, 9, 10, 11, 20, 40} {
			v := nested(n, self.last, self.around)
			checkIs(t, s, 0, v, true)
			if got := value.Deep(v); got != self.each*n+2 {
				t.Errorf("%s is %d deep, not %d", said(v), got, self.each*n+2)
			}
			// What is wrong at the very end, or no Record there.
			for _, last := range []api.Value{null, {}, items(api.Record), items(api.Array), with(self.last, func(v *api.Value) { v.Items[0].Kind = 99 }), with(self.last, func(v *api.Value) { v.Bits = 1 }), with(self.last, func(v *api.Value) { v.Items = append(v.Items, null) })} {
				checkIs(t, s, 0, nested(n, last, self.around), false)
			}
		}
		for _, n := range []int{1000, 15000} {
			v := nested(n, self.last, self.around)
			if !value.Conforms(s, 0, v) || value.Deep(v) != self.each*n+2 || !value.Same(v, value.Copy(v)) {
				t.Errorf("%d times in itself a value of %s is none", n, said(s))
			}
			other := nested(n, null, self.around)
			if value.Conforms(s, 0, other) || value.Same(v, other) {
				t.Errorf("%d times in itself what is no value of %s is one", n, said(s))
			}
		}
	}
	// By fields alone a record that may be is no part of itself.
	checkShape(t, record("r", at(0)), items(api.Record, items(api.Record)), false)
	checkShape(t, record("r", at(0)), items(api.Record), false)
}

// P11.1: a schema that may not be: nothing is one of its nodes, whichever node it is that may not.
func TestSchemasThatMayNotBe(t *testing.T) {
	s := eachKind()
	values := append([]api.Value{items(api.Record, eachValue()[1:]...)}, eachValue()[1:]...)
	spoil := []func(s *api.Schema){
		func(s *api.Schema) { s.Root = 1 }, func(s *api.Schema) { s.Root = -1 }, func(s *api.Schema) { s.Root = 15 },
		func(s *api.Schema) { s.Nodes = append(s.Nodes, api.Node{Kind: api.Null}) },
		func(s *api.Schema) { s.Nodes[0].Name = "" }, func(s *api.Schema) { s.Nodes[9].Name = "e" }, func(s *api.Schema) { s.Nodes[10].Symbols[2] = "S0" }, func(s *api.Schema) { s.Nodes[10].Symbols = nil },
		func(s *api.Schema) { s.Nodes[14].Size = -1 }, func(s *api.Schema) { s.Nodes[14].Size = 1001 }, func(s *api.Schema) { s.Nodes[1].Items = 1 },
		func(s *api.Schema) { s.Nodes[11].Items = 99 }, func(s *api.Schema) { s.Nodes[12].Items = -1 }, func(s *api.Schema) { s.Nodes[13].Branches = []int{9, 9} }, func(s *api.Schema) { s.Nodes[13].Branches = []int{99} }, func(s *api.Schema) { s.Nodes[13].Branches = nil },
		func(s *api.Schema) { s.Nodes[0].Fields[3].Type = 99 }, func(s *api.Schema) { s.Nodes[0].Fields[3].Name = "f1" }, func(s *api.Schema) { s.Nodes[0].Fields[0].Type = 0 },
		func(s *api.Schema) { s.Nodes[0].Fields[2].Has = true }, func(s *api.Schema) { s.Nodes[0].Fields[2].Default.Int = 1 }, func(s *api.Schema) { s.Nodes = s.Nodes[:14] },
	}
	for at, v := range values {
		checkIs(t, s, at, v, true)
		for _, change := range spoil {
			spoiled := twin(s)
			change(&spoiled)
			checkIs(t, spoiled, at, v, false)
		}
	}
	for _, kind := range allKinds() {
		one := api.Schema{Nodes: []api.Node{{Kind: kind}}}
		checkIs(t, one, 0, api.Value{Kind: kind}, kind >= 1 && kind <= 8)
		checkIs(t, api.Schema{}, kind, api.Value{Kind: kind}, false)
		checkIs(t, api.Schema{}, 0, api.Value{Kind: kind}, false)
	}
	// Too deep, and too many.
	for n := range 40 {
		root, v := kind(api.Null), api.Value{Kind: api.Null}
		for range n {
			root, v = list(root), items(api.Array, v)
		}
		checkShape(t, root, v, n <= 32)
	}
	var four []shape
	for n := range 4 {
		four = append(four, list(record(fmt.Sprint("r", n), slices.Repeat([]shape{kind(api.Null)}, 40)...)))
	}
	for more := 28; more <= 36; more++ {
		root := record("top", append(four, slices.Repeat([]shape{kind(api.Null)}, more)...)...)
		v := items(api.Record, append(times(4, items(api.Array)), times(more, api.Value{Kind: api.Null})...)...)
		checkShape(t, root, v, 1+4*42+more <= 200)
	}
}

// P11.1: places that are no node's.
func TestPlaces(t *testing.T) {
	s := eachKind()
	for _, v := range append(eachValue(), items(api.Record, eachValue()[1:]...)) {
		for _, at := range append(farPlaces(), 15, 16) {
			checkIs(t, s, at, v, false)
		}
	}
	for n := 1; n <= 8; n++ {
		s := lay(kind(n))
		for _, at := range append(farPlaces(), 1, 2, 3) {
			checkIs(t, s, at, eachValue()[n], false)
		}
		// Each node is asked by its own place, wherever Root is.
		both := lay(record("r", kind(n), kind(n), list(kind(n))))
		for at := 1; at <= 2; at++ {
			checkIs(t, both, at, eachValue()[n], true)
		}
		checkIs(t, both, 4, eachValue()[n], true)
		checkIs(t, both, 3, eachValue()[n], false)
		checkIs(t, both, 3, items(api.Array, eachValue()[n]), true)
	}
	// What lies behind the nodes is none of them.
	more := append(slices.Clone(s.Nodes), api.Node{Kind: api.Null}, api.Node{Kind: api.Null})
	s.Nodes = more[:15]
	if value.Conforms(s, 15, api.Value{Kind: api.Null}) || value.Conforms(s, 16, api.Value{Kind: api.Null}) {
		t.Error("nodes behind the list's length have values")
	}
}
