package value_test

import (
	"bytes"
	"fmt"
	"math"
	"slices"
	"strings"
	"testing"

	"avocet/api"
	"avocet/schema"
	"avocet/value"
)

// changes are changes of one part of a value each, by what they change; each makes it another one.
func changes() map[string]func(v *api.Value) {
	return map[string]func(v *api.Value){
		"Kind up":      func(v *api.Value) { v.Kind++ },
		"Kind far":     func(v *api.Value) { v.Kind += 1 << 32 },
		"Kind below":   func(v *api.Value) { v.Kind = -v.Kind - 1 },
		"Int up":       func(v *api.Value) { v.Int++ },
		"Int far":      func(v *api.Value) { v.Int += 1 << 32 },
		"Int sign":     func(v *api.Value) { v.Int ^= math.MinInt64 },
		"Bits up":      func(v *api.Value) { v.Bits++ },
		"Bits far":     func(v *api.Value) { v.Bits ^= 1 << 32 },
		"Bits highest": func(v *api.Value) { v.Bits ^= 1 << 63 },
		"Bytes more":   func(v *api.Value) { v.Bytes = append(bytes.Clone(v.Bytes), 0) },
		"Bytes ahead":  func(v *api.Value) { v.Bytes = append([]byte{'a'}, v.Bytes...) },
		"Bytes fewer":  func(v *api.Value) { v.Bytes = cutOr(v.Bytes, 9) },
		"Bytes first":  func(v *api.Value) { v.Bytes = turnedAt(v.Bytes, 0, func(b byte) byte { return b + 1 }) },
		"Bytes last":   func(v *api.Value) { v.Bytes = turnedAt(v.Bytes, len(v.Bytes)-1, func(b byte) byte { return b ^ 0x80 }) },
		"Items more":   func(v *api.Value) { v.Items = append(slices.Clone(v.Items), api.Value{}) },
		"Items fewer":  func(v *api.Value) { v.Items = cutOr(v.Items, api.Value{Kind: 1}) },
		"Items first":  func(v *api.Value) { v.Items = turnedAt(v.Items, 0, func(v api.Value) api.Value { v.Bits++; return v }) },
		"Items last": func(v *api.Value) {
			v.Items = turnedAt(v.Items, len(v.Items)-1, func(v api.Value) api.Value { v.Int--; return v })
		},
		"Items last Kind": func(v *api.Value) {
			v.Items = turnedAt(v.Items, len(v.Items)-1, func(v api.Value) api.Value { v.Kind--; return v })
		},
		"Keys more":  func(v *api.Value) { v.Keys = append(slices.Clone(v.Keys), "") },
		"Keys fewer": func(v *api.Value) { v.Keys = cutOr(v.Keys, "k") },
		"Keys first": func(v *api.Value) { v.Keys = turnedAt(v.Keys, 0, func(s string) string { return s + "x" }) },
		"Keys last": func(v *api.Value) {
			v.Keys = turnedAt(v.Keys, len(v.Keys)-1, func(s string) string { return "\xff" + s })
		},
	}
}

// cutOr is a list without its last element, or, of one without any, a list of another.
func cutOr[T any](of []T, other T) []T {
	if len(of) == 0 {
		return []T{other}
	}
	return slices.Clone(of[:len(of)-1])
}

// turnedAt is a list with one element turned, or, of one without any, a list of what is turned of nothing.
func turnedAt[T any](of []T, at int, turn func(one T) T) []T {
	of = slices.Clone(of)
	if len(of) == 0 {
		of, at = make([]T, 1), 0
	}
	of[at] = turn(of[at])
	return of
}

// shapes are values of every shape, also ones that are of no node.
func shapes() []api.Value {
	full := api.Value{Kind: api.Long, Int: -5, Bits: 7, Bytes: []byte("ab\xff"), Items: []api.Value{{Kind: api.Null}, {Kind: api.Float, Bits: 1}}, Keys: []string{"a", "b"}}
	out := append(eachValue(), full, api.Value{Items: times(3, api.Value{})}, api.Value{Keys: []string{"", "x", ""}}, api.Value{Bytes: []byte{0, 0}}, items(api.Record, eachValue()...), items(api.Record, times(300, full)...))
	for _, kind := range allKinds() {
		v := twin(full)
		v.Kind = kind
		out = append(out, v, api.Value{Kind: kind}, items(kind, v, items(api.Array, v, v), v), branch(int64(kind), v))
	}
	out = append(out, octets(api.Bytes, strings.Repeat("x", 20001)), items(api.Array, times(301, items(api.Array))...), api.Value{Kind: api.Map, Keys: slices.Repeat([]string{strings.Repeat("k", 300)}, 301)})
	return out
}

// P11.2: Same of values of every shape, and of ones that differ in each part alone, at the top and deep below.
func TestSame(t *testing.T) {
	for _, v := range shapes() {
		checkValue(t, v)
		for what, change := range changes() {
			changed := with(v, change)
			checkValue(t, changed)
			if alike(v, changed) {
				t.Fatalf("%s is alike after %s", said(v), what)
			}
			checkDiffer(t, v, changed)
			if len(v.Items) > 100 {
				continue
			}
			for _, around := range []func(v api.Value) api.Value{
				func(v api.Value) api.Value { return items(api.Array, v) },
				func(v api.Value) api.Value { return items(api.Int, v, v) },
				func(v api.Value) api.Value { return items(0, api.Value{}, v, api.Value{Kind: 7}) },
				func(v api.Value) api.Value { return branch(3, keyed("a|b|", api.Value{}, items(api.Record, v))) },
				func(v api.Value) api.Value {
					return nested(20, v, func(v api.Value) api.Value { return items(api.Array, api.Value{Kind: 3, Int: 4}, v) })
				},
			} {
				checkDiffer(t, around(v), around(changed))
			}
			// Just one of two that are alike is another.
			checkDiffer(t, items(api.Array, v, v), items(api.Array, v, changed))
			checkDiffer(t, items(api.Array, v, v), items(api.Array, changed, v))
			checkDiffer(t, items(api.Array, v, changed), items(api.Array, changed, v))
		}
	}
}

// P11.2: Same of any two of many values.
func TestSameOfAny(t *testing.T) {
	all := shapes()[:60]
	for _, v := range parts() {
		v.Kind = api.Map
		all = append(all, v)
	}
	for _, a := range all {
		for _, b := range all {
			if got := value.Same(a, b); got != alike(a, b) {
				t.Fatalf("Same(%s, %s) is %v", said(a), said(b), got)
			}
		}
	}
	// Keys, bytes and items in another order, or with their bounds elsewhere, are others.
	two := []api.Value{number(api.Int, 1), number(api.Int, 2)}
	checkDiffer(t, items(api.Array, two...), items(api.Array, two[1], two[0]))
	checkDiffer(t, keyed("a|b|", two...), keyed("b|a|", two...))
	checkDiffer(t, keyed("a|b|", two...), keyed("b|a|", two[1], two[0]))
	checkDiffer(t, keyed("ab||", two...), keyed("a|b|", two...))
	checkDiffer(t, octets(api.Bytes, "ab"), octets(api.Bytes, "ba"))
	checkDiffer(t, items(api.Array, items(api.Array, two...)), items(api.Array, items(api.Array, two[0]), items(api.Array, two[1])))
	checkDiffer(t, octets(api.String, "a"), api.Value{Kind: api.String, Keys: []string{"a"}})
	// Bits are bits: noughts with a sign differ, and what is no number is as itself.
	checkDiffer(t, bits(api.Double, 0), bits(api.Double, 1<<63))
	checkDiffer(t, bits(api.Float, 0), bits(api.Float, 1<<31))
	checkValue(t, bits(api.Double, 0x7ff8000000000001))
	checkDiffer(t, bits(api.Double, 0x7ff8000000000001), bits(api.Double, 0x7ff8000000000002))
	// Texts are held against each other byte by byte.
	checkDiffer(t, octets(api.String, "\u00e4"), octets(api.String, "a\u0308"))
	checkDiffer(t, keyed("A|", two[0]), keyed("a|", two[0]))
	checkDiffer(t, keyed("\xff|", two[0]), keyed("\xfe|", two[0]))
}

// P11.2: Deep of each kind, without Items and with ones.
func TestDeep(t *testing.T) {
	for _, kind := range allKinds() {
		for _, form := range []struct {
			v    api.Value
			deep int
		}{
			{api.Value{Kind: kind}, 1},
			{api.Value{Kind: kind, Items: []api.Value{}}, 1},
			{api.Value{Kind: kind, Int: 99, Bits: 9, Bytes: []byte("abc"), Keys: []string{"a", "b"}}, 1},
			{items(kind, api.Value{}), 1},
			{items(kind, number(api.Long, 5), octets(api.Bytes, "abc")), 1},
			{items(kind, items(api.Array)), 2},
			{items(kind, items(api.Int, items(api.Array, items(api.Array)))), 1},
			{items(kind, items(api.Array, items(api.Null, items(api.Array)))), 2},
			{items(kind, items(api.Array, items(api.Record, items(api.Map, items(api.Union))))), 5},
			// The deepest of several, wherever it stands.
			{items(kind, items(api.Map, items(api.Array)), items(api.Record), number(api.Int, 1)), 3},
			{items(kind, items(api.Record), items(api.Map, items(api.Array)), items(api.Union)), 3},
			{items(kind, number(api.Int, 1), items(api.Record), items(api.Map, items(api.Array), items(api.Array))), 3},
			{items(kind, items(api.Array, times(5, items(api.Array))...), items(api.Array, items(api.Array), items(api.Array, items(api.Array)))), 4},
			// Fewer keys than items, more, and a place that is none.
			{api.Value{Kind: kind, Int: -1, Items: []api.Value{items(api.Array), items(api.Array, items(api.Array))}, Keys: []string{"a"}}, 3},
		} {
			want := form.deep
			if !holds(kind) {
				want = 0
			}
			if got := value.Deep(form.v); got != want {
				t.Errorf("Deep(%s) = %d, not %d", said(form.v), got, want)
			}
			checkValue(t, form.v)
		}
	}
	for _, around := range []int{api.Record, api.Array, api.Map, api.Union} {
		for _, n := range []int{0, 1, 2, 19, 20, 21, 32, 33, 300, 65535} {
			for last, more := range map[int]int{api.Null: 0, api.Fixed: 0, 0: 0, api.Array: 1, api.Union: 1} {
				v := nested(n, api.Value{Kind: last}, func(v api.Value) api.Value { return items(around, v) })
				if got := value.Deep(v); got != n+more {
					t.Errorf("a %d in %d of %d is %d deep", last, n, around, got)
				}
			}
		}
	}
	for at, v := range eachValue() {
		want := 0
		if holds(at) {
			want = 1
		}
		if at == api.Union {
			want = 2
		}
		if got := value.Deep(v); got != want {
			t.Errorf("Deep(%s) = %d, not %d", said(v), got, want)
		}
	}
}

// spoilAll changes each part of a value, at the top and below, with what its lists have room for.
func spoilAll(v *api.Value) {
	for at := range v.Items[:cap(v.Items)] {
		spoilAll(&v.Items[:cap(v.Items)][at])
	}
	for at := range v.Bytes[:cap(v.Bytes)] {
		v.Bytes[:cap(v.Bytes)][at] ^= 0x55
	}
	for at := range v.Keys[:cap(v.Keys)] {
		v.Keys[:cap(v.Keys)][at] += "!"
	}
	v.Kind, v.Int, v.Bits = v.Kind+1, v.Int-1, v.Bits+1
	_ = append(v.Items, api.Value{Kind: 99})
	_ = append(v.Bytes, 99)
	_ = append(v.Keys, "99")
}

// P11.2, rule 4: a copy is of its own memory: changed behind it, neither changes the other.
func TestCopy(t *testing.T) {
	for _, v := range shapes() {
		own := twin(v)
		was := twin(own)
		made := value.Copy(own)
		again := value.Copy(own)
		spoilAll(&made)
		if !untouched(own, was) || !alike(again, v) {
			t.Fatalf("%s was changed by its copy", said(v))
		}
		made = value.Copy(own)
		spoilAll(&own)
		if !alike(made, v) || !alike(again, v) {
			t.Fatalf("a copy of %s was changed behind it", said(v))
		}
		for _, change := range changes() {
			own := twin(v)
			made := value.Copy(own)
			change(&made)
			if !alike(own, v) {
				t.Fatalf("%s was changed by its copy", said(v))
			}
		}
	}
	// One list that is there twice is two in a copy.
	inner := items(api.Array, number(api.Int, 1), number(api.Int, 2))
	v := items(api.Record, inner, inner, api.Value{Kind: api.Bytes, Bytes: []byte("abc")})
	v.Items = append(v.Items, v.Items[2])
	made := value.Copy(v)
	made.Items[0].Items[0].Int = 9
	made.Items[2].Bytes[0] = 'z'
	if !alike(made.Items[1], inner) || string(made.Items[3].Bytes) != "abc" || shared(made, v) {
		t.Errorf("a copy has a list twice: %+v", made)
	}
	// What lies behind a list's length is not handed out.
	room := api.Value{Kind: api.Map, Items: append(make([]api.Value, 0, 40), api.Value{Kind: 1}), Bytes: make([]byte, 3, 700), Keys: append(make([]string, 0, 40), "a")}
	for at := range room.Items[:40] {
		room.Items[:40][at], room.Keys[:40][at] = api.Value{Kind: 77, Keys: []string{"hidden"}}, "hidden"
	}
	for at := range room.Bytes[:700] {
		room.Bytes[:700][at] = 7
	}
	made = value.Copy(room)
	if slices.ContainsFunc(made.Items[1:cap(made.Items)], func(v api.Value) bool { return v.Kind == 77 }) || slices.Contains(made.Keys[1:cap(made.Keys)], "hidden") || bytes.IndexByte(made.Bytes[3:cap(made.Bytes)], 7) >= 0 {
		t.Errorf("a copy has what lies behind: %+v", made)
	}
	checkValue(t, room)
}

// P11.2: parts however deep.
func TestFarBelow(t *testing.T) {
	const far = 65535
	around := func(v api.Value) api.Value {
		return api.Value{Kind: api.Union, Int: 1, Items: []api.Value{v}, Keys: []string{"k"}, Bytes: []byte("b")}
	}
	a, b := nested(far, number(api.Int, 1), around), nested(far, number(api.Int, 2), around)
	made := value.Copy(a)
	if !value.Same(a, made) || value.Same(a, b) || value.Same(b, made) || value.Deep(made) != far {
		t.Error("what is far below is not told")
	}
	for v := &made; ; v = &v.Items[0] {
		if v.Int = 7; len(v.Items) == 0 {
			break
		}
	}
	if !value.Same(a, nested(far, number(api.Int, 1), around)) {
		t.Error("what is far below was changed by its copy")
	}
}

// anyShape is a shape of nodes that hang on no rule; names are none twice, and a record may be a part of itself.
func anyShape(next func(int) int, deep int, names *int, inUnion bool) shape {
	of := next(14) + 1
	if deep <= 0 && holds(of) || inUnion && of == api.Union {
		of = next(8) + 1
	}
	*names++
	name := fmt.Sprint("n", *names)
	switch of {
	case api.Record:
		fields := make([]shape, next(5))
		for at := range fields {
			fields[at] = anyShape(next, deep-1, names, false)
			if next(6) == 0 {
				fields[at] = []shape{list(at0()), dict(at0()), union(kind(api.Null), at0())}[next(3)]
			}
		}
		return record(name, fields...)
	case api.Enum:
		return enum(name, next(4)+1)
	case api.Fixed:
		return fixed(name, next(4))
	case api.Array:
		return list(anyShape(next, deep-1, names, false))
	case api.Map:
		return dict(anyShape(next, deep-1, names, false))
	case api.Union:
		branches := make([]shape, next(4)+1)
		for at := range branches {
			branches[at] = anyShape(next, deep-1, names, true)
		}
		return union(branches...)
	}
	return kind(of)
}

// at0 is the root once more; where that has no name, no schema comes of it.
func at0() shape { return at(0) }

// anyOf is a value of a node that hangs on no rule, at most about so deep.
func anyOf(next func(int) int, s api.Schema, at int, deep int) api.Value {
	n := s.Nodes[at]
	v := api.Value{Kind: n.Kind}
	count := next(4)
	if deep <= 0 {
		count = 0
	}
	switch n.Kind {
	case api.Boolean:
		v.Int = int64(next(2))
	case api.Int:
		v.Int = int64(int32(next(1 << 32)))
	case api.Long:
		v.Int = int64(next(math.MaxInt)) - int64(next(math.MaxInt))
	case api.Float:
		v.Bits = uint64(uint32(next(1 << 32)))
	case api.Double:
		v.Bits = uint64(next(math.MaxInt)) * 2
	case api.Bytes, api.String:
		v.Bytes = []byte([]string{"", "a", "ä€", "😀b", "\x00"}[next(5)])
		if n.Kind == api.Bytes && next(2) == 0 {
			v.Bytes = []byte{byte(next(256)), 0xff}
		}
	case api.Fixed:
		v.Bytes = bytes.Repeat([]byte{byte(next(256))}, n.Size)
	case api.Enum:
		v.Int = int64(next(len(n.Symbols)))
	case api.Record:
		for _, f := range n.Fields {
			v.Items = append(v.Items, anyOf(next, s, f.Type, deep-1))
		}
	case api.Array, api.Map:
		for range count {
			v.Items = append(v.Items, anyOf(next, s, n.Items, deep-1))
			if n.Kind == api.Map {
				v.Keys = append(v.Keys, []string{"", "a", "b", "ä"}[next(4)])
			}
		}
	case api.Union:
		place := next(len(n.Branches))
		if deep <= 0 {
			// The first branch is never what leads back to the root.
			place = 0
		}
		v.Int = int64(place)
		v.Items = []api.Value{anyOf(next, s, n.Branches[place], deep-1)}
	}
	return v
}

// all are a value and all in it.
func all(v *api.Value) []*api.Value {
	out := []*api.Value{v}
	for at := range v.Items {
		out = append(out, all(&v.Items[at])...)
	}
	return out
}

// P11.1, P11.2, P11.3: schemas and values that hang on no rule, each with changes of one thing.
func TestAny(t *testing.T) {
	next := random(11)
	schemas, right, wrong := 0, 0, 0
	for range 3000 {
		names := 0
		s := lay(anyShape(next, 4, &names, false))
		if !schema.Right(s) {
			check(t, s, 0, api.Value{Kind: s.Nodes[0].Kind})
			continue
		}
		schemas++
		for range 3 {
			at := next(len(s.Nodes))
			v := anyOf(next, s, at, 6)
			checkIs(t, s, at, v, true)
			checkValue(t, v)
			checkUntouched(t, s, at, v)
			for range 4 {
				changed := twin(v)
				parts := all(&changed)
				part := parts[next(len(parts))]
				changeAny(next, part)
				if check(t, s, at, changed) {
					right++
				} else {
					wrong++
				}
				check(t, s, next(len(s.Nodes)), changed)
				checkValue(t, changed)
				if got := value.Same(v, changed); got != alike(v, changed) {
					t.Fatalf("Same(%s, %s) is %v", said(v), said(changed), got)
				}
			}
		}
	}
	if schemas < 1000 || right < 1000 || wrong < 1000 {
		t.Errorf("%d schemas, %d right, %d wrong: too few", schemas, right, wrong)
	}
}

// changeAny changes one thing in a value, so that it may be one of its node still, or not.
func changeAny(next func(int) int, v *api.Value) {
	switch next(9) {
	case 0:
		v.Kind = next(16)
	case 1:
		v.Int += int64(next(5) - 2)
	case 2:
		v.Bits ^= 1 << next(64)
	case 3:
		v.Bytes = append(v.Bytes, byte(next(256)))
	case 4:
		if len(v.Bytes) > 0 {
			v.Bytes[next(len(v.Bytes))] ^= 1 << next(8)
		}
	case 5:
		v.Items = append(v.Items, eachValue()[next(15)])
	case 6:
		if len(v.Items) > 0 {
			v.Items = v.Items[:len(v.Items)-1]
		}
	case 7:
		v.Keys = append(v.Keys, []string{"", "a", "\xff"}[next(3)])
	case 8:
		if len(v.Keys) > 0 {
			v.Keys[next(len(v.Keys))] = []string{"", "zz", "\x80"}[next(3)]
		}
	}
}

// P11.3: parts of a value that is one of a node are ones of its kids, and a value is one of at most one branch's kind without a name.
func TestWhatFollows(t *testing.T) {
	ten := lay(union(kind(1), kind(2), kind(3), kind(4), kind(5), kind(6), kind(7), kind(8), list(kind(1)), dict(kind(1))))
	for _, v := range parts() {
		for _, kind := range allKinds() {
			v.Kind = kind
			count := 0
			for place, at := range schema.Kids(ten.Nodes[0]) {
				if value.Conforms(ten, at, v) {
					count++
					checkIs(t, ten, 0, branch(int64(place), v), true)
				}
				if value.Conforms(ten, 0, branch(int64(place), v)) != value.Conforms(ten, at, v) {
					t.Fatalf("%s is one of a branch, and is none in it, or the other way", said(v))
				}
			}
			if count > 1 {
				t.Errorf("%s is one of %d branches", said(v), count)
			}
		}
	}
}
