package canon_test

import (
	"fmt"
	"math"
	"reflect"
	"slices"
	"testing"

	"avocet/api"
	"avocet/canon"
	"avocet/schema"
)

// checkStripped holds that a schema is stripped to another one.
func checkStripped(t *testing.T, s, want api.Schema) {
	t.Helper()
	if got := canon.Strip(s); !alike(got, want) {
		t.Errorf("Strip(%s) = %s, not %s", said(s), said(got), said(want))
	}
	checkStrip(t, s)
}

// P15.2: rows worked out by hand, with each part that goes and each that stays.
func TestStrip(t *testing.T) {
	checkStripped(t, api.Schema{Nodes: []api.Node{
		{Kind: api.Record, Name: "n.r", Aliases: []string{"a", "b.c"}, Fields: []api.Field{
			{Name: "f", Aliases: []string{"g", "h"}, Type: 1, Has: true, Default: api.Json{Kind: api.JInt, Int: 7}},
			{Name: "i", Type: 2, Has: true, Default: api.Json{Kind: api.JText, Text: "A"}},
			{Name: "j", Aliases: []string{"k"}, Type: 3},
			{Name: "l", Type: 0},
		}},
		{Kind: api.Int},
		{Kind: api.Enum, Name: "e", Aliases: []string{"d"}, Symbols: []string{"A", "B"}, Has: true, Default: "B"},
		{Kind: api.Union, Branches: []int{4, 5, 0}},
		{Kind: api.Fixed, Name: "x", Aliases: []string{"y"}, Size: 16},
		{Kind: api.Map, Items: 6},
		{Kind: api.Array, Items: 2},
	}}, api.Schema{Nodes: []api.Node{
		{Kind: api.Record, Name: "n.r", Fields: []api.Field{{Name: "f", Type: 1}, {Name: "i", Type: 2}, {Name: "j", Type: 3}, {Name: "l", Type: 0}}},
		{Kind: api.Int},
		{Kind: api.Enum, Name: "e", Symbols: []string{"A", "B"}},
		{Kind: api.Union, Branches: []int{4, 5, 0}},
		{Kind: api.Fixed, Name: "x", Size: 16},
		{Kind: api.Map, Items: 6},
		{Kind: api.Array, Items: 2},
	}})
	// What has nothing of it stays as it was.
	for _, root := range []shape{kind(3), list(kind(1)), dict(kind(8)), union(kind(1), enum("e", "A")), record("r"), record("n.r", list(again("n.r")), fixed("x", 1000), again("x")), enum("e", "A", "B"), fixed("x", 0)} {
		checkStripped(t, lay(root), lay(root))
	}
}

// P15.2: a default of each kind of tree, of fields and at each place, and one that is no tree; Has without more, and a default without it.
func TestStripDefaults(t *testing.T) {
	deep := nestedTree(100)
	odd := api.Json{Kind: -3, Int: math.MinInt64, Text: "\xff", Items: []api.Json{{Kind: 99, Items: []api.Json{{}}}, {}}, Keys: []string{"a", "a", "\xff"}}
	want := lay(record("r", kind(3), kind(3), kind(3)))
	for _, j := range append(trees(), api.Json{}, deep, odd) {
		for at := range want.Nodes[0].Fields {
			for _, has := range []bool{true, false} {
				s := twin(want)
				s.Nodes[0].Fields[at].Has, s.Nodes[0].Fields[at].Default = has, j
				checkStripped(t, s, want)
				s.Nodes[0].Fields[at].Aliases = []string{"", "a", "a"}
				checkStripped(t, s, want)
			}
		}
	}
	if got := canon.Strip(with(want, func(s *api.Schema) { s.Nodes[0].Fields[1].Default = nestedTree(60000) })); !alike(got, want) {
		t.Errorf("of a deep default Strip is %s", said(got))
	}
	enums := lay(enum("e", "A", "B"))
	for _, text := range []string{"", "A", "B", "C", "\xff"} {
		for _, has := range []bool{true, false} {
			checkStripped(t, with(enums, func(s *api.Schema) { s.Nodes[0].Has, s.Nodes[0].Default = has, text }), enums)
		}
	}
}

// nestedTree is a tree of so many objects in each other.
func nestedTree(deep int) api.Json {
	j := api.Json{Kind: api.JNull}
	for range deep {
		j = api.Json{Kind: api.JObj, Keys: []string{"k"}, Items: []api.Json{j}}
	}
	return j
}

// fullNode is a node of a kind in which each part that there is has something.
func fullNode(kind int) api.Node {
	j := api.Json{Kind: 6, Int: 4, Text: "t", Items: []api.Json{{Kind: 5, Items: []api.Json{{Kind: 3, Int: 7}, {Text: "u"}}}, {Kind: 1}}, Keys: []string{"k", "l"}}
	fields := []api.Field{{Name: "f", Aliases: []string{"g", "h"}, Type: 7, Has: true, Default: j}, {Name: "p"}, {Name: "f", Type: math.MinInt, Has: true}, {Type: -1, Default: j}}
	return api.Node{Kind: kind, Name: "n\xff", Aliases: []string{"m", "m", ""}, Fields: fields, Symbols: []string{"A", "", "A"}, Has: true, Default: "C", Size: -3, Items: math.MaxInt, Branches: []int{0, 0, -2, math.MaxInt}}
}

// bareNode is that node stripped.
func bareNode(kind int) api.Node {
	fields := []api.Field{{Name: "f", Type: 7}, {Name: "p"}, {Name: "f", Type: math.MinInt}, {Type: -1}}
	return api.Node{Kind: kind, Name: "n\xff", Fields: fields, Symbols: []string{"A", "", "A"}, Size: -3, Items: math.MaxInt, Branches: []int{0, 0, -2, math.MaxInt}}
}

// P15.2: schemas that may not be: nodes of each kind and of what is none, with all parts at once, and a Root that is none.
func TestStripWhatMayNotBe(t *testing.T) {
	kinds := []int{math.MinInt, -1 << 32, -1, 1<<32 + 9, math.MaxInt}
	for kind := range 17 {
		kinds = append(kinds, kind)
	}
	for _, kind := range kinds {
		for _, root := range []int{0, 1, -1, 7, math.MinInt, math.MaxInt} {
			full, want := fullNode(kind), bareNode(kind)
			checkStripped(t, api.Schema{Nodes: []api.Node{full}, Root: root}, api.Schema{Nodes: []api.Node{want}, Root: root})
			checkStripped(t, api.Schema{Nodes: []api.Node{{}, full, {Kind: 3}, full}, Root: root}, api.Schema{Nodes: []api.Node{{}, want, {Kind: 3}, want}, Root: root})
		}
		// Each part alone.
		v := reflect.ValueOf(fullNode(kind))
		for part := range v.NumField() {
			one := reflect.New(v.Type()).Elem()
			one.Field(part).Set(v.Field(part))
			n := one.Interface().(api.Node)
			s := api.Schema{Nodes: []api.Node{n}}
			checkStripped(t, s, stripped(s))
		}
	}
	for _, root := range []int{0, 1, -1, math.MinInt, math.MaxInt} {
		checkStripped(t, api.Schema{Root: root}, api.Schema{Root: root})
		checkStripped(t, api.Schema{Nodes: []api.Node{}, Root: root}, api.Schema{Root: root})
	}
	for name, change := range spoilers() {
		if got := checkStrip(t, with(rich(), change)); len(got.Nodes) > 0 && got.Nodes[0].Has {
			t.Errorf("%s: %s", name, said(got))
		}
	}
	// Kids that stand in themselves, and far more nodes than may be.
	checkStripped(t, api.Schema{Nodes: []api.Node{{Kind: 11, Has: true}, {Kind: 13, Branches: []int{1}}}}, api.Schema{Nodes: []api.Node{{Kind: 11}, {Kind: 13, Branches: []int{1}}}})
	for _, many := range []int{200, 201, 5000} {
		checkStripped(t, api.Schema{Nodes: slices.Repeat([]api.Node{fullNode(9)}, many)}, api.Schema{Nodes: slices.Repeat([]api.Node{bareNode(9)}, many)})
	}
}

// P15.2: what is stripped shares nothing, also where two nodes, or two fields, came in with the same lists.
func TestStripShares(t *testing.T) {
	n := fullNode(9)
	n.Fields[1] = n.Fields[0]
	s := api.Schema{Nodes: []api.Node{n, n, {Kind: 13, Branches: n.Branches[:2]}, {Kind: 10, Symbols: n.Symbols[1:]}}}
	got := canon.Strip(s)
	if shared(got, s) || !alike(got, stripped(s)) {
		t.Errorf("Strip(%s) = %s", said(s), said(got))
	}
	got.Nodes[0].Fields[0].Name, got.Nodes[0].Symbols[1], got.Nodes[0].Branches[0] = "changed", "changed", 77
	if got.Nodes[1].Fields[0].Name != "f" || got.Nodes[3].Symbols[0] != "" || got.Nodes[2].Branches[0] != 0 || s.Nodes[0].Fields[0].Name != "f" || s.Nodes[0].Branches[0] != 0 {
		t.Errorf("%s was changed with what was stripped", said(s))
	}
	checkStrip(t, rich())
	checkStrip(t, lay(within(100, record("r", enum("e", "A")))))
}

// P15.2: what is stripped may be, if what it was made of may, and stays as it is.
func TestStripTwice(t *testing.T) {
	var all []api.Schema
	for _, root := range []shape{kind(1), record("n.r", union(kind(1), again("n.r"))), enum("e", "A"), within(32, kind(3))} {
		all = append(all, lay(root))
	}
	for many := range 4 {
		s := rich()
		s.Nodes[0].Fields = s.Nodes[0].Fields[:len(s.Nodes[0].Fields)-many]
		all = append(all, s)
	}
	for _, s := range all {
		once := checkStrip(t, s)
		if schema.Right(s) != schema.Right(once) {
			t.Errorf("%s may be: %v; stripped: %v", said(s), schema.Right(s), schema.Right(once))
		}
		checkStripped(t, once, once)
		form, e := checkForm(t, s)
		if again, f := checkForm(t, once); again != form || e != f {
			t.Errorf("%s has another form than %s", said(once), said(s))
		}
	}
	// One that may not be for what is stripped alone may be then.
	for name, may := range map[string]bool{"an alias that is none": true, "a default without Has": true, "a default with more": true, "a symbol that is missing": true, "another kind's Has": true, "many aliases": true, "a symbol twice": false, "a great size": false, "Root": false} {
		s := with(rich(), spoilers()[name])
		if got := schema.Right(checkStrip(t, s)); got != may {
			t.Errorf("%s: stripped it may be: %v", name, got)
		}
	}
}

// P15.2: what stays, by each change of it; what goes, by each change of that.
func TestStripChanges(t *testing.T) {
	s := api.Schema{Nodes: []api.Node{fullNode(9), fullNode(10)}, Root: 2}
	base, stay, gone := canon.Strip(s), 0, 0
	for _, changed := range schemaChanges(s) {
		other := changed()
		got := checkStrip(t, other)
		if alike(got, base) {
			gone++
		} else {
			stay++
		}
	}
	if stay < 100 || gone < 100 {
		t.Errorf("%d changes stay, %d are gone", stay, gone)
	}
	for part, keeps := range map[string]bool{"Kind": true, "Name": true, "Aliases": false, "Symbols": true, "Has": false, "Default": false, "Size": true, "Items": true, "Branches": true, "Fields": true} {
		for at := range s.Nodes {
			other := with(s, func(s *api.Schema) { spoil(reflect.ValueOf(s).Elem().FieldByName("Nodes").Index(at).FieldByName(part)) })
			if got := alike(canon.Strip(other), base); got != !keeps {
				t.Errorf("%s of the node %d changed: %v", part, at, got)
			}
		}
	}
	for part, keeps := range map[string]bool{"Name": true, "Aliases": false, "Type": true, "Has": false, "Default": false} {
		for at := range s.Nodes[0].Fields {
			other := with(s, func(s *api.Schema) { spoil(reflect.ValueOf(&s.Nodes[0].Fields[at]).Elem().FieldByName(part)) })
			if got := alike(canon.Strip(other), base); got != !keeps {
				t.Errorf("%s of the field %d changed: %v", part, at, got)
			}
		}
	}
}

// changes are all ways to change just one thing in a value, each made in a value of its own.
func changes(v reflect.Value) []func() reflect.Value {
	var out []func() reflect.Value
	set := func(change func(at reflect.Value)) {
		out = append(out, func() reflect.Value {
			at := reflect.New(v.Type()).Elem()
			at.Set(v)
			change(at)
			return at
		})
	}
	switch v.Kind() {
	case reflect.Struct:
		for at := range v.NumField() {
			for _, changed := range changes(v.Field(at)) {
				set(func(v reflect.Value) { v.Field(at).Set(changed()) })
			}
		}
	case reflect.Slice:
		items := func(from, to int) reflect.Value {
			return reflect.AppendSlice(reflect.Zero(v.Type()), v.Slice(from, to))
		}
		size := v.Len()
		for at := range size {
			for _, changed := range changes(v.Index(at)) {
				set(func(to reflect.Value) {
					to.Set(items(0, size))
					to.Index(at).Set(changed())
				})
			}
			set(func(to reflect.Value) { to.Set(reflect.AppendSlice(items(0, at), items(at+1, size))) })
			for other := range at {
				// Two exchanged.
				set(func(to reflect.Value) {
					to.Set(items(0, size))
					to.Index(at).Set(v.Index(other))
					to.Index(other).Set(v.Index(at))
				})
			}
		}
		set(func(to reflect.Value) { to.Set(reflect.Append(items(0, size), reflect.Zero(v.Type().Elem()))) })
		if size > 0 {
			set(func(to reflect.Value) { to.Set(reflect.Append(items(0, size), v.Index(0))) })
		}
	case reflect.Int, reflect.Int64:
		for _, n := range []int64{v.Int() + 1, v.Int() - 1, v.Int() ^ 1<<32, -1 - v.Int(), 0} {
			if n != v.Int() {
				set(func(to reflect.Value) { to.SetInt(n) })
			}
		}
	case reflect.String:
		for _, s := range []string{v.String() + "a", "a" + v.String(), "z." + v.String(), v.String() + "\x00", fmt.Sprint("Z", len(v.String())), ""} {
			if s != v.String() {
				set(func(to reflect.Value) { to.SetString(s) })
			}
		}
	case reflect.Bool:
		set(func(to reflect.Value) { to.SetBool(!v.Bool()) })
	}
	return out
}

// schemaChanges are all ways to change just one thing in a schema.
func schemaChanges(s api.Schema) []func() api.Schema {
	var out []func() api.Schema
	for _, change := range changes(reflect.ValueOf(s)) {
		out = append(out, func() api.Schema { return change().Interface().(api.Schema) })
	}
	return out
}
