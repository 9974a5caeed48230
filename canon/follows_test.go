package canon_test

import (
	"fmt"
	"slices"
	"strings"
	"testing"

	"avocet/api"
	"avocet/canon"
	"avocet/load"
	"avocet/schema"
)

// depth tells how many lists and objects of a form stand in one another; no name has a bracket.
func depth(form string) int {
	now, deepest := 0, 0
	for _, c := range form {
		switch c {
		case '[', '{':
			now++
		case ']', '}':
			now--
		}
		deepest = max(deepest, now)
	}
	return deepest
}

// checkLoaded holds that the form of a schema, of which the names have all a space or all none, is loaded as the schema stripped, or is too deep; it tells whether it is loaded.
func checkLoaded(t *testing.T, s api.Schema) bool {
	t.Helper()
	form, e := checkForm(t, s)
	if e != api.OK {
		t.Fatalf("Form(%s) is %d", said(s), e)
	}
	got, e := load.Text([]byte(form))
	if deep := depth(form); deep > 32 {
		if e != api.ErrDeep {
			t.Fatalf("Text(%s), %d deep, is %d", form, deep, e)
		}
		return false
	}
	if e != api.OK || !alike(got, canon.Strip(s)) || !alike(got, stripped(s)) {
		t.Fatalf("Text(%s) = %s, %d, not %s", form, said(got), e, said(stripped(s)))
	}
	// And what is loaded has that form.
	checkRow(t, got, form)
	return true
}

// shapes are shapes of each kind, whose names are all ones in a space.
func shapes(in func(name string) string) map[string]shape {
	r, s, e, x := in("r"), in("s"), in("e"), in("x")
	out := map[string]shape{
		"a record":          record(r),
		"a record of one":   record(r, kind(3)),
		"a record of more":  record(r, kind(3), kind(8), kind(1)),
		"an enum":           enum(e, "A", "B"),
		"an enum of one":    enum(e, "e"),
		"a fixed":           fixed(x, 16),
		"a fixed of none":   fixed(x, 0),
		"the greatest one":  fixed(x, 1000),
		"an array":          list(kind(3)),
		"a map":             dict(list(kind(3))),
		"a union":           union(kind(1), kind(8), list(kind(1)), dict(kind(1)), enum(e, "A"), fixed(x, 1), record(r, again(e))),
		"a union of one":    list(union(kind(2))),
		"itself":            record(r, union(kind(1), again(r)), list(again(r)), dict(again(r))),
		"each other":        record(r, list(record(s, list(again(r)), union(again(s), kind(1)))), again(s)),
		"beside itself":     record(r, enum(e, "A"), again(e), fixed(x, 3), again(e), again(x)),
		"in a field behind": record(r, record(s, fixed(x, 3)), list(again(x)), again(s)),
		"named in itself":   record(r, record(s, record(in("t"), record(in("u"), list(again(r)), list(again(s)), list(again(in("t"))))))),
		"names of kinds":    record(in("Record"), enum(in("union"), "record", "type", "name"), fixed(in("string_"), 3), list(again(in("union"))), again(in("string_"))),
		"the deepest":       within(32, kind(3)),
		"deep in a record":  record(r, within(29, kind(3))),
		"wide":              record(r, slices.Repeat([]shape{union(kind(1), kind(3))}, 40)...),
	}
	for of := range kindWords() {
		out[fmt.Sprint("the kind ", of)] = kind(of)
	}
	return out
}

// spaces are ways to lay names into a space, or into none.
func spaces() []func(name string) string {
	return []func(name string) string{
		func(name string) string { return name },
		func(name string) string { return "n." + name },
		func(name string) string { return "a.b.C9._." + name },
		func(name string) string { return long(99-len(name)) + "." + name },
		// Each name in one of its own.
		func(name string) string { return "of_" + name + "." + name },
		func(name string) string { return name + "." + name + "." + name },
	}
}

// P15.3: forms of schemas whose names have all a space, or all none, loaded as the schemas stripped.
func TestLoaded(t *testing.T) {
	for _, in := range spaces() {
		for what, root := range shapes(in) {
			s := lay(root)
			if !schema.Right(s) {
				t.Fatalf("%s: %s may not be", what, said(s))
			}
			if !checkLoaded(t, s) {
				t.Errorf("%s: %s is too deep", what, said(s))
			}
			// With what is left out as well.
			for at := range s.Nodes {
				n := &s.Nodes[at]
				if named(n.Kind) {
					n.Aliases = []string{"other", "m.other"}
				}
				if n.Kind == api.Enum {
					n.Has, n.Default = true, n.Symbols[0]
				}
				for place := range n.Fields {
					f := &n.Fields[place]
					f.Aliases, f.Has, f.Default = []string{"g"}, true, trees()[place%len(trees())]
				}
			}
			checkLoaded(t, s)
		}
	}
	s := rich()
	s.Nodes[schema.Find(s, "x")].Name = "n.x"
	checkLoaded(t, s)
}

// P15.3: forms that are just as deep as may be, and deeper.
func TestTooDeep(t *testing.T) {
	for deep := 1; deep <= 33; deep++ {
		var root shape = record("r0")
		for n := 1; n < deep; n++ {
			root = record(fmt.Sprint("r", n), root)
		}
		// Each record is three deep, the innermost one, without fields, two.
		s := lay(root)
		if got := checkLoaded(t, s); got != (3*deep-1 <= 32) {
			t.Errorf("%d records in each other are loaded: %v", deep, got)
		}
		if deep <= 32 {
			checkLoaded(t, lay(within(deep, kind(api.Null))))
			checkLoaded(t, lay(within(deep-1, union(kind(api.Null)))))
		}
		for n := range 33 - deep {
			in := lay(within(n, root))
			if got := checkLoaded(t, in); got != (n+3*deep-1 <= 32) {
				t.Errorf("%d records in %d arrays are loaded: %v", deep, n, got)
			}
		}
	}
}

// P15.3: forms of just as many bytes as there may be are loaded too.
func TestLoadedMaxJson(t *testing.T) {
	for size := 19990; size <= 20000; size++ {
		if form, _ := checkForm(t, filled(t, size, fixed("n.x", 1000))); len(form) != size {
			t.Errorf("%d bytes, not %d", len(form), size)
		}
		checkLoaded(t, filled(t, size, fixed("n.x", 1000)))
	}
}

// checkOneForm holds that two schemas that may be have one form just if stripped they are alike, and tells whether they have.
func checkOneForm(t *testing.T, a, b api.Schema) bool {
	t.Helper()
	first, e := canon.Form(a)
	second, f := canon.Form(b)
	if e != api.OK || f != api.OK {
		t.Fatalf("Form is %d, %d", e, f)
	}
	one := string(first) == string(second)
	if one != alike(stripped(a), stripped(b)) || one != alike(canon.Strip(a), canon.Strip(b)) {
		t.Fatalf("%s and %s have one form: %v", said(a), said(b), one)
	}
	return one
}

// P15.3: schemas that differ in one thing alone, of each thing that there is.
func TestOneThing(t *testing.T) {
	s := rich()
	at := func(s *api.Schema, full string) *api.Node { return &s.Nodes[schema.Find(*s, full)] }
	of := func(s *api.Schema, kind int) *api.Node {
		return &s.Nodes[slices.IndexFunc(s.Nodes, func(n api.Node) bool { return n.Kind == kind })]
	}
	for what, change := range map[string]func(s *api.Schema){
		"an alias":                 func(s *api.Schema) { s.Nodes[0].Aliases[0] = "z" },
		"another alias":            func(s *api.Schema) { s.Nodes[0].Aliases = append(s.Nodes[0].Aliases, "z") },
		"no alias":                 func(s *api.Schema) { s.Nodes[0].Aliases = nil },
		"an enum's alias":          func(s *api.Schema) { at(s, "n.e").Aliases[0] = "z" },
		"a fixed's alias":          func(s *api.Schema) { at(s, "x").Aliases[2] = "z" },
		"an inner record's alias":  func(s *api.Schema) { at(s, "n.s").Aliases = nil },
		"a field's alias":          func(s *api.Schema) { at(s, "n.s").Fields[1].Aliases[0] = "z" },
		"a field's aliases":        func(s *api.Schema) { at(s, "n.s").Fields[1].Aliases = nil },
		"a field's first alias":    func(s *api.Schema) { at(s, "n.s").Fields[0].Aliases = []string{"z"} },
		"a field's default":        func(s *api.Schema) { s.Nodes[0].Fields[0].Default.Int++ },
		"a field's default's kind": func(s *api.Schema) { s.Nodes[0].Fields[3].Default = api.Json{Kind: api.JBool} },
		"no default":               func(s *api.Schema) { s.Nodes[0].Fields[4].Has, s.Nodes[0].Fields[4].Default = false, api.Json{} },
		"a default where none was": func(s *api.Schema) { f := &s.Nodes[0].Fields[9]; f.Has, f.Default = true, api.Json{Kind: api.JNull} },
		"an enum's default":        func(s *api.Schema) { at(s, "n.e").Default = "C" },
		"an enum without default":  func(s *api.Schema) { at(s, "n.e").Has, at(s, "n.e").Default = false, "" },
		"! a record's name":        func(s *api.Schema) { s.Nodes[0].Name = "n.q" },
		"! a record's space":       func(s *api.Schema) { s.Nodes[0].Name = "m.r" },
		"! no space":               func(s *api.Schema) { s.Nodes[0].Name = "r" },
		"! more space":             func(s *api.Schema) { s.Nodes[0].Name = "n.n.r" },
		"! a dot elsewhere":        func(s *api.Schema) { at(s, "x").Name = "_.x" },
		"! a name's case":          func(s *api.Schema) { s.Nodes[0].Name = "N.r" },
		"! an inner record's name": func(s *api.Schema) { at(s, "n.s").Name = "n.t" },
		"! an enum's name":         func(s *api.Schema) { at(s, "n.e").Name = "n.e1" },
		"! a fixed's name":         func(s *api.Schema) { at(s, "x").Name = "y" },
		"! a field's name":         func(s *api.Schema) { s.Nodes[0].Fields[0].Name = "F0" },
		"! an inner field's name":  func(s *api.Schema) { at(s, "n.s").Fields[2].Name = "z" },
		"! two fields' names":      func(s *api.Schema) { f := s.Nodes[0].Fields; f[0].Name, f[1].Name = f[1].Name, f[0].Name },
		"! a field's type":         func(s *api.Schema) { s.Nodes[0].Fields[9].Type = schema.Find(*s, "n.e") },
		"! a field's kind":         func(s *api.Schema) { of(s, api.Int).Kind = api.Long },
		"! a kind deeper":          func(s *api.Schema) { of(s, api.String).Kind = api.Bytes },
		"! a branch's kind":        func(s *api.Schema) { of(s, api.Null).Kind = api.String },
		"! a map's kind":           func(s *api.Schema) { of(s, api.Map).Kind = api.Array },
		"! an array's kind":        func(s *api.Schema) { of(s, api.Array).Kind = api.Map },
		"! an array's items":       func(s *api.Schema) { s.Nodes[at(s, "n.s").Fields[0].Type].Items = schema.Find(*s, "n.s") },
		"! a symbol":               func(s *api.Schema) { at(s, "n.e").Symbols[0] = "a" },
		"! two symbols":            func(s *api.Schema) { x := at(s, "n.e").Symbols; x[0], x[1] = x[1], x[0] },
		"! a symbol more":          func(s *api.Schema) { at(s, "n.e").Symbols = append(at(s, "n.e").Symbols, "D") },
		"! a symbol less":          func(s *api.Schema) { at(s, "n.e").Symbols = at(s, "n.e").Symbols[:2] },
		"! a size":                 func(s *api.Schema) { at(s, "x").Size++ },
		"! no size":                func(s *api.Schema) { at(s, "x").Size = 0 },
		"! two branches":           func(s *api.Schema) { b := of(s, api.Union).Branches; b[1], b[2] = b[2], b[1] },
		"! a branch less":          func(s *api.Schema) { u := of(s, api.Union); u.Branches = slices.Delete(u.Branches, 1, 2) },
		"! a field less":           func(s *api.Schema) { s.Nodes[0].Fields = s.Nodes[0].Fields[:9] },
		"! a field more": func(s *api.Schema) {
			n := &s.Nodes[0]
			n.Fields = append(n.Fields, api.Field{Name: "more", Type: schema.Find(*s, "n.e")})
		},
		"! a field of an inner one": func(s *api.Schema) {
			n := at(s, "n.s")
			n.Fields = append(n.Fields, api.Field{Name: "more", Type: schema.Find(*s, "x")})
		},
		"! a fixed in an enum's way": func(s *api.Schema) { *at(s, "n.e") = api.Node{Kind: api.Fixed, Name: "n.e", Size: 4} },
		"! an enum in a fixed's way": func(s *api.Schema) { *at(s, "x") = api.Node{Kind: api.Enum, Name: "x", Symbols: []string{"A"}} },
		"! a record in a fixed's":    func(s *api.Schema) { *at(s, "x") = api.Node{Kind: api.Record, Name: "x"} },
	} {
		other := with(s, change)
		if !schema.Right(other) || alike(s, other) {
			t.Fatalf("%s: %s may not be, or is alike", what, said(other))
		}
		if one := checkOneForm(t, s, other); one == strings.HasPrefix(what, "!") {
			t.Errorf("%s: they have one form: %v", what, one)
		}
		checkForm(t, other)
	}
}

// P15.3: each change of one thing, of those that may be, in schemas of each kind; and any two of these.
func TestOneChange(t *testing.T) {
	ones, others := 0, 0
	var all []api.Schema
	for _, in := range spaces()[:2] {
		for what, root := range shapes(in) {
			if what != "wide" && what != "the deepest" && what != "deep in a record" {
				all = append(all, lay(root))
			}
		}
	}
	all = append(all, rich(), stripped(rich()))
	for _, s := range all {
		for _, changed := range schemaChanges(s) {
			other := changed()
			if !schema.Right(other) {
				checkRefused(t, other, 2)
				continue
			}
			checkForm(t, other)
			if checkOneForm(t, s, other) {
				ones++
			} else {
				others++
			}
		}
		for _, other := range all {
			checkOneForm(t, s, other)
		}
	}
	if ones < 100 || others < 300 {
		t.Errorf("%d have one form, %d have two", ones, others)
	}
}

// grower lays schemas that hang on no rule.
type grower struct {
	s    api.Schema
	some func(below int) int
	// in are the spaces in which names are.
	in []string
}

// node lays a node, and what is below it.
func (g *grower) node(deep int) int {
	if met := g.met(); len(met) > 0 && g.some(4) == 0 {
		return met[g.some(len(met))]
	}
	kind := 1 + g.some(14)
	switch {
	case deep == 0:
		kind = []int{9, 9, 13, 11, 12}[g.some(5)]
	case deep > 5 && kind >= 9:
		kind = 1 + g.some(8)
	}
	n := api.Node{Kind: kind}
	if named(kind) {
		n.Name = g.in[g.some(len(g.in))] + fmt.Sprint("n", len(g.s.Nodes))
		n.Aliases = []string{"x", "y.z", "n1"}[:g.some(4)]
	}
	switch kind {
	case 10:
		n.Symbols = []string{"A", "B", "C"}[:1+g.some(3)]
		if n.Has = g.some(2) == 0; n.Has {
			n.Default = "A"
		}
	case 14:
		n.Size = g.some(1001)
	}
	place := leaf(n)(&g.s)
	switch kind {
	case 9:
		for f := range g.some(6) {
			field := api.Field{Name: fmt.Sprint("f", f), Aliases: []string{"f0", "g"}[:g.some(3)], Type: g.node(deep + 1)}
			if field.Has = g.some(3) == 0; field.Has {
				field.Default = trees()[g.some(len(trees()))]
			}
			g.s.Nodes[place].Fields = append(g.s.Nodes[place].Fields, field)
		}
	case 11, 12:
		items := g.node(deep + 1)
		g.s.Nodes[place].Items = items
	case 13:
		for range 1 + g.some(4) {
			branch := g.node(deep + 1)
			g.s.Nodes[place].Branches = append(g.s.Nodes[place].Branches, branch)
		}
	}
	return place
}

// met are the nodes that were laid already and have names.
func (g *grower) met() []int {
	var out []int
	for at, n := range g.s.Nodes {
		if named(n.Kind) {
			out = append(out, at)
		}
	}
	return out
}

// P15.1 to P15.3: schemas that hang on no rule, and such with one thing or two changed.
func TestAnySchemas(t *testing.T) {
	some := random(15)
	counts := map[string]int{}
	for n := range 3000 {
		g := grower{some: some, in: [][]string{{""}, {"a.", "a.b.", "c."}, {"", "a.", "a.b."}}[n%3]}
		g.node(0)
		checkStrip(t, g.s)
		if _, e := checkForm(t, g.s); e != api.OK {
			counts["refused"]++
			continue
		}
		counts["formed"]++
		if n%3 != 2 && checkLoaded(t, g.s) {
			counts["loaded"]++
		}
		all := schemaChanges(g.s)
		for range 6 {
			other := all[some(len(all))]()
			more := schemaChanges(other)
			for _, other := range []api.Schema{other, more[some(len(more))]()} {
				if _, e := checkForm(t, other); e != api.OK {
					counts["refused when changed"]++
				} else if checkOneForm(t, g.s, other) {
					counts["one form"]++
				} else {
					counts["two forms"]++
				}
			}
		}
	}
	for _, what := range []string{"refused", "formed", "loaded", "refused when changed", "one form", "two forms"} {
		if counts[what] < 300 {
			t.Errorf("just %v", counts)
		}
	}
}

// P15.3: names of which some have a space and some have none make a form too, of which the two are told apart.
func TestMixedNames(t *testing.T) {
	two := func(a, b string) api.Schema { return lay(record(a, list(record(b, list(again(a)))), again(b))) }
	names := []string{"r", "n.r", "m.r", "s", "n.s", "n.n.s", "n_s"}
	for _, a := range names {
		for _, b := range names {
			if a == b {
				continue
			}
			checkRow(t, two(a, b), `{"name":"`+a+`","type":"record","fields":[{"name":"f0","type":{"type":"array","items":{"name":"`+b+`","type":"record","fields":[{"name":"f0","type":{"type":"array","items":"`+a+`"}}]}}},{"name":"f1","type":"`+b+`"}]}`)
			for _, c := range names {
				for _, d := range names {
					if c != d && checkOneForm(t, two(a, b), two(c, d)) != (a == c && b == d) {
						t.Errorf("%s, %s and %s, %s", a, b, c, d)
					}
				}
			}
		}
	}
}
