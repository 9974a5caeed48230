package build_test

import (
	"fmt"
	"reflect"
	"slices"
	"strings"
	"testing"

	"avocet/api"
	"avocet/build"
)

// fault is something wrong: what an object then has at some keys (nothing: it does not have the key), at which step of the chapter it is told, and what is told.
type fault struct {
	step int
	e    api.Errno
	keys map[string]string
}

// laid is an object with a fault in it.
func (f fault) laid(j api.Json) api.Json {
	for key, item := range f.keys {
		if item == "" {
			j = without(j, key)
		} else {
			j = with(j, key, tree(item))
		}
	}
	return j
}

// beside tells whether two faults may stand in one object.
func (f fault) beside(other fault) bool {
	for key := range f.keys {
		if _, both := other.keys[key]; both {
			return false
		}
	}
	return true
}

// many is the text of a list of 41 of a text with a number's digits behind it.
func many(word string) string {
	var out []string
	for n := range 41 {
		out = append(out, fmt.Sprintf(`"%s%d"`, word, n))
	}
	return "[" + strings.Join(out, ",") + "]"
}

// ofType are faults of any object's type.
var ofType = []fault{
	{0, 30, map[string]string{"type": ""}}, {0, 30, map[string]string{"type": "7"}}, {0, 30, map[string]string{"type": `["int"]`}}, {0, 31, map[string]string{"type": `"1"`}}, {0, 33, map[string]string{"type": `"nothing"`}},
}

// ofNames are faults of what has a name; n.k, o.x and o.k are there already.
var ofNames = []fault{
	{1, 30, map[string]string{"name": ""}}, {1, 30, map[string]string{"name": "7"}}, {1, 30, map[string]string{"namespace": "7"}}, {1, 30, map[string]string{"namespace": "null"}},
	{2, 31, map[string]string{"name": `"1"`}}, {2, 31, map[string]string{"name": `""`}}, {2, 31, map[string]string{"namespace": `"1"`}}, {2, 31, map[string]string{"name": `"int"`, "namespace": `""`}},
	{3, 32, map[string]string{"name": `"k"`}}, {3, 32, map[string]string{"namespace": `"o"`}},
	{4, 30, map[string]string{"aliases": "7"}}, {4, 30, map[string]string{"aliases": "{}"}}, {4, 30, map[string]string{"aliases": `["1",7]`}}, {4, 30, map[string]string{"aliases": strings.Replace(many("1"), `"13"`, "3", 1)}},
	{5, 3, map[string]string{"aliases": many("a")}}, {5, 3, map[string]string{"aliases": many("1")}}, {6, 31, map[string]string{"aliases": `["1"]`}},
}

// whole is an object, all its faults, and the step at which its node is made.
type whole struct {
	text   string
	made   int
	faults []fault
}

// wholes are objects of each kind.
func wholes() []whole {
	return []whole{
		{`{"type":"record","name":"x","namespace":"n","aliases":["a"],"fields":[{"name":"f","type":"int"}]}`, 9, slices.Concat(ofType, ofNames, []fault{
			{7, 30, map[string]string{"fields": ""}}, {7, 30, map[string]string{"fields": "{}"}}, {8, 3, map[string]string{"fields": many("f")}},
			{10, 30, map[string]string{"fields": "[7]"}}, {10, 30, map[string]string{"fields": "[{}]"}}, {10, 31, map[string]string{"fields": `[{"name":"1"}]`}}, {10, 30, map[string]string{"fields": `[{"name":"f"}]`}}, {10, 33, map[string]string{"fields": `[{"name":"f","type":"nothing"}]`}},
			{10, 36, map[string]string{"fields": `[{"name":"f","type":"int"},{"name":"f"}]`}}, {11, 3, map[string]string{"fields": `[{"name":"f","type":{"type":"record","name":"n.s","fields":[{"name":"f","type":"s"}]}}]`}},
		})},
		{`{"type":"enum","name":"x","namespace":"n","aliases":["a"],"symbols":["A","B"],"default":"B"}`, 12, slices.Concat(ofType, ofNames, []fault{
			{7, 30, map[string]string{"symbols": ""}}, {7, 30, map[string]string{"symbols": `"B"`}}, {7, 30, map[string]string{"symbols": "[]"}}, {7, 30, map[string]string{"symbols": `["1",7]`}}, {8, 3, map[string]string{"symbols": many("A")}}, {8, 3, map[string]string{"symbols": many("1")}},
			{9, 31, map[string]string{"symbols": `["B","1"]`}}, {9, 36, map[string]string{"symbols": `["B","B"]`}}, {10, 30, map[string]string{"default": "7"}}, {10, 30, map[string]string{"default": "null"}}, {11, 35, map[string]string{"default": `"C"`}}, {11, 35, map[string]string{"default": `"1"`}},
		})},
		{`{"type":"fixed","name":"x","namespace":"n","aliases":["a"],"size":3}`, 9, slices.Concat(ofType, ofNames, []fault{
			{7, 30, map[string]string{"size": ""}}, {7, 30, map[string]string{"size": `"3"`}}, {8, 3, map[string]string{"size": "-1"}}, {8, 3, map[string]string{"size": "1001"}},
		})},
		{`{"type":"array","items":"int"}`, 2, slices.Concat(ofType, []fault{
			{1, 30, map[string]string{"items": ""}}, {3, 30, map[string]string{"items": "7"}}, {3, 33, map[string]string{"items": `"nothing"`}}, {3, 34, map[string]string{"items": "[]"}},
		})},
		{`{"type":"map","values":"int"}`, 2, slices.Concat(ofType, []fault{
			{1, 30, map[string]string{"values": ""}}, {3, 30, map[string]string{"values": "7"}}, {3, 33, map[string]string{"values": `"nothing"`}}, {3, 34, map[string]string{"values": "[]"}},
		})},
	}
}

// among is a tree behind the nodes that faults know, and others up to so many.
func among(nodes int, j api.Json) api.Json {
	known := []api.Json{tree(`{"type":"fixed","name":"n.k","size":1}`), tree(`{"type":"fixed","name":"o.x","size":1}`), tree(`{"type":"fixed","name":"o.k","size":1}`)}
	ahead := behind(nodes-len(known), j)
	fields := parts(ahead)["fields"].Items
	for n, one := range known {
		fields = slices.Insert(fields, n, with(with(tree(`{}`), "name", text(fmt.Sprint("known", n))), "type", one))
	}
	return with(ahead, "fields", list(fields...))
}

// P12.1: of two things that are wrong in an object the one that comes first, and none without one; with room for its node and without.
func TestTwoFaults(t *testing.T) {
	for _, w := range wholes() {
		base := tree(w.text)
		for _, room := range []int{10, 200} {
			told := func(step int, e api.Errno) api.Errno {
				// What stands behind a node that has no room is not asked any more.
				if room == 200 && step > w.made {
					return 3
				}
				return e
			}
			if room < 200 {
				checkRefused(t, among(room, base), 0)
			} else {
				checkRefused(t, among(room, base), 3)
			}
			for at, one := range w.faults {
				checkRefused(t, among(room, one.laid(base)), told(one.step, one.e))
				for _, other := range w.faults[at+1:] {
					if one.beside(other) {
						checkRefused(t, among(room, other.laid(one.laid(base))), told(one.step, one.e))
					}
				}
			}
		}
	}
}

// P12.1: of two things that are wrong in a field the one that comes first.
func TestTwoFaultsOfAField(t *testing.T) {
	base := tree(`{"name":"f","aliases":["a"],"type":"int","default":1}`)
	faults := []fault{
		{0, 30, map[string]string{"name": ""}}, {0, 30, map[string]string{"name": "7"}}, {1, 31, map[string]string{"name": `"1"`}}, {1, 31, map[string]string{"name": `"a.b"`}}, {2, 36, map[string]string{"name": `"e"`}},
		{3, 30, map[string]string{"aliases": "7"}}, {3, 30, map[string]string{"aliases": `["1",7]`}}, {4, 3, map[string]string{"aliases": many("a")}}, {4, 3, map[string]string{"aliases": many("1")}}, {5, 31, map[string]string{"aliases": `["1"]`}}, {5, 31, map[string]string{"aliases": `["n.a"]`}},
		{6, 30, map[string]string{"type": ""}}, {7, 30, map[string]string{"type": "7"}}, {7, 31, map[string]string{"type": `"1"`}}, {7, 33, map[string]string{"type": `"nothing"`}}, {7, 34, map[string]string{"type": "[]"}}, {7, 32, map[string]string{"type": `{"type":"fixed","name":"q","size":1}`}},
	}
	of := func(fields ...api.Json) api.Json {
		return with(record("n.q"), "fields", list(append([]api.Json{tree(`{"name":"e","type":"long"}`)}, fields...)...))
	}
	last := tree(`{"name":"g","type":"int"}`)
	checkRefused(t, of(base, last), 0)
	for at, one := range faults {
		checkRefused(t, of(one.laid(base)), one.e)
		checkRefused(t, of(last, one.laid(base)), one.e)
		for _, other := range faults[at+1:] {
			if one.beside(other) {
				checkRefused(t, of(other.laid(one.laid(base))), one.e)
			}
		}
		// Of two fields the one that stands ahead, whatever is wrong with it.
		for _, other := range faults {
			checkRefused(t, of(one.laid(base), other.laid(last)), one.e)
		}
	}
}

// P12.1: of two nodes that are wrong the one that is made first, wherever both stand, and what stands inside ahead of what it stands in.
func TestTwoNodes(t *testing.T) {
	wrong := []struct {
		text string
		e    api.Errno
	}{
		{`7`, 30}, {`"1"`, 31}, {`"nothing"`, 33}, {`[]`, 34}, {`{"type":"fixed","name":"k","size":1}`, 32}, {`{"type":"fixed","name":"x","size":-1}`, 3}, {`{"type":"enum","name":"x","symbols":["A"],"default":"B"}`, 35}, {`{"type":"enum","name":"x","symbols":["A","A"]}`, 36},
	}
	known := tree(`{"type":"fixed","name":"k","size":1}`)
	array, dict := tree(`{"type":"array"}`), tree(`{"type":"map"}`)
	for _, a := range wrong {
		one := tree(a.text)
		for _, b := range wrong {
			other := tree(b.text)
			checkRefused(t, list(known, one, other), a.e)
			checkRefused(t, record("r", known, one, other), a.e)
			checkRefused(t, record("r", known, list(one), other), a.e)
			checkRefused(t, list(known, with(array, "items", one), with(array, "items", other)), a.e)
			checkRefused(t, list(known, with(dict, "values", one), other), a.e)
			checkRefused(t, list(known, record("r", text("int"), one), other), a.e)
			checkRefused(t, record("r", known, record("s", text("int"), one), other), a.e)
		}
		// Within a union in a union, and a branch that is there already.
		checkRefused(t, list(known, list(one)), a.e)
		checkRefused(t, list(known, with(array, "items", text("int")), with(array, "items", one)), a.e)
		// A record that is a part of itself, ahead of it.
		checkRefused(t, list(known, record("r", text("r")), one), a.e)
	}
}

// orders calls one with a list in each order.
func orders(items []int, one func(items []int)) {
	if len(items) == 0 {
		one(nil)
	}
	for at, item := range items {
		orders(slices.Delete(slices.Clone(items), at, at+1), func(rest []int) { one(append([]int{item}, rest...)) })
	}
}

// inOrder is an object with its keys in an order.
func inOrder(j api.Json, order []int) api.Json {
	out := api.Json{Kind: j.Kind}
	for _, at := range order {
		out.Items, out.Keys = append(out.Items, j.Items[at]), append(out.Keys, j.Keys[at])
	}
	return out
}

// counted are the numbers below a number.
func counted(below int) []int {
	var out []int
	for n := range below {
		out = append(out, n)
	}
	return out
}

// P12.1: an object's items in any order, and ones that nothing asks for.
func TestAnyOrderOfItems(t *testing.T) {
	field := tree(`{"name":"f","aliases":["a"],"type":["n.r","null"],"default":7}`)
	for _, r := range []row{
		{`{"type":"record","name":"r","namespace":"n","aliases":["a"],"fields":[]}`, "record n.r~n.a", 0}, {`{"type":"enum","name":"e","namespace":"n","aliases":["a"],"symbols":["B","A"],"default":"A"}`, "enum n.e~n.a B A =A", 0},
		{`{"type":"fixed","name":"x","namespace":"n","aliases":["a"],"size":7}`, "fixed n.x~n.a 7", 0}, {`{"type":"array","items":"int"}`, "array 1; int", 0}, {`{"type":"map","values":"int"}`, "map 1; int", 0}, {`{"type":"int","a":7}`, "int", 0},
		{`{"type":"record","name":"1","namespace":7,"aliases":7,"fields":7}`, "", 30}, {`{"type":"record","name":"int","aliases":7,"fields":7}`, "", 31}, {`{"type":"enum","name":"e","symbols":["1"],"default":7}`, "", 31},
	} {
		j := tree(r.text)
		orders(counted(len(j.Keys)), func(order []int) {
			if s, e := check(t, inOrder(j, order)); line(s) != r.line || e != r.e {
				t.Errorf("Build(%s) = %s, %d, not %s, %d", said(inOrder(j, order)), line(s), e, r.line, r.e)
			}
		})
		for _, key := range []string{"", "doc", "Name", "NAME", "TYPE", "order", "logicalType", "precision", "type ", "space", "alias"} {
			for _, item := range []string{"null", "7", `"1"`, `[[]]`, `{"type":"nothing","name":7}`} {
				more := with(j, key, tree(item))
				last := len(j.Keys)
				for at := range last + 1 {
					order := slices.Insert(counted(last), at, last)
					if s, e := check(t, inOrder(more, order)); line(s) != r.line || e != r.e {
						t.Errorf("Build(%s) = %s, %d, not %s, %d", said(inOrder(more, order)), line(s), e, r.line, r.e)
					}
				}
			}
		}
	}
	orders(counted(len(field.Keys)), func(order []int) {
		j := with(record("n.r"), "fields", list(inOrder(field, order)))
		if s, e := check(t, j); line(s) != "record n.r f~a:1=7; union 0 2; null" || e != 0 {
			t.Errorf("Build(%s) = %s, %d", said(j), line(s), e)
		}
	})
	for _, key := range []string{"doc", "namespace", "order", "fields", "symbols", "size", "items", "values"} {
		j := with(record("n.r"), "fields", list(with(field, key, tree(`{"type":7}`))))
		if s, e := check(t, j); line(s) != "record n.r f~a:1=7; union 0 2; null" || e != 0 {
			t.Errorf("Build(%s) = %s, %d", said(j), line(s), e)
		}
	}
}

// rich is a tree in which each thing is that a schema may have.
func rich() api.Json {
	return tree(`{"type":"record","name":"r","namespace":"n","aliases":["a","b.c"],"doc":"d","fields":[
		{"name":"f","aliases":["g","h"],"type":["null","r",{"type":"enum","name":"e","aliases":["ee"],"symbols":["A","B"],"default":"B"}],"default":null},
		{"name":"k","type":{"type":"array","items":{"type":"map","values":{"type":"fixed","name":"m.x","aliases":["y","n.z"],"size":3}}},"default":[{"q":"\u00ff"},[1,true]]},
		{"name":"l","type":{"type":"record","name":"s","namespace":"","aliases":["t"],"fields":[{"name":"f","type":"m.x"},{"name":"g","type":["n.e","s","string",{"type":"bytes"}]}]}},
		{"name":"m","type":{"type":"e"}}]}`)
}

const richLine = `record n.r~n.a~b.c f~g~h:1=null k:4=[{"q":"ÿ"},[1,true]] l:7 m:3; union 2 0 3; null; enum n.e~n.ee A B =B; array 5; map 6; fixed m.x~m.y~n.z 3; record s~t f:6 g:8; union 3 7 9 10; string; bytes`

// anew are all ways to lay another tree in the place of a part of a tree, to do without a part of a list or an object, to lay a list's part behind it once more, or another tree ahead of it, and to call an object's by other keys.
func anew(j api.Json, other api.Json, keys ...string) []func() api.Json {
	out := []func() api.Json{func() api.Json { return other }}
	for at, item := range j.Items {
		changed := func(change func(j *api.Json)) {
			out = append(out, func() api.Json {
				j := api.Json{Kind: j.Kind, Items: slices.Clone(j.Items), Keys: slices.Clone(j.Keys)}
				change(&j)
				return j
			})
		}
		for _, below := range anew(item, other, keys...) {
			changed(func(j *api.Json) { j.Items[at] = below() })
		}
		changed(func(j *api.Json) {
			j.Items = slices.Delete(j.Items, at, at+1)
			if j.Kind == api.JObj {
				j.Keys = slices.Delete(j.Keys, at, at+1)
			}
		})
		if j.Kind == api.JList {
			changed(func(j *api.Json) { j.Items = slices.Insert(j.Items, at, other) })
			changed(func(j *api.Json) { j.Items = append(j.Items, item) })
			continue
		}
		for _, key := range keys {
			changed(func(j *api.Json) { j.Keys[at] = key })
		}
	}
	return out
}

// oddities are texts of trees that stand where others are asked for.
var oddities = []string{
	`null`, `true`, `0`, `7`, `-1`, `1000`, `1001`, `""`, `"1"`, `"a"`, `"f"`, `"r"`, `"s"`, `"n"`, `"n.r"`, `"n.e"`, `"m.x"`, `"x"`, `"int"`, `"null"`, `"array"`, `"record"`, `"a.b"`, `"a."`, `"A"`, `"B"`,
	`[]`, `["null"]`, `["A"]`, `["A","A"]`, `["A","B","C"]`, `["1"]`, `[7]`, `["int","string"]`, `["r"]`, `[["null"]]`, `[{"name":"f","type":"int"}]`, `{}`, `{"type":"int"}`, `{"type":"r"}`, `{"type":"array","items":"int"}`,
	`{"type":"record","name":"r","fields":[]}`, `{"type":"record","name":"e","fields":[{"name":"f","type":"e"}]}`, `{"type":"fixed","name":"x","size":1}`, `{"type":"enum","name":"e","symbols":["A"]}`, `{"name":"f","type":"int"}`,
}

// P12.1, P12.2: each part of a tree with each oddity in its place.
func TestOddParts(t *testing.T) {
	if s, e := check(t, rich()); line(s) != richLine || e != api.OK {
		t.Fatalf("%s, %d, not %s", line(s), e, richLine)
	}
	rights, wrongs := 0, map[api.Errno]int{}
	all := anew(rich(), text("x"), "type", "name", "namespace", "aliases", "fields", "symbols", "size", "items", "values", "default", "doc")
	for _, odd := range oddities {
		all = append(all, anew(rich(), tree(odd))...)
	}
	for _, changed := range all {
		if _, e := check(t, changed()); e != api.OK {
			wrongs[e]++
		} else {
			rights++
		}
	}
	if rights < 500 {
		t.Errorf("just %d are right", rights)
	}
	for _, e := range []api.Errno{2, 3, 30, 31, 32, 33, 34, 35, 36} {
		if wrongs[e] < 5 {
			t.Errorf("just %d are refused with %d", wrongs[e], e)
		}
	}
}

// pick is one of several, that hangs on no rule.
func pick[T any](some func(below int) int, of ...T) T { return of[some(len(of))] }

// grower tells trees that hang on no rule.
type grower struct {
	some func(below int) int
	odd  int // one in so many parts is an oddity
	made int
}

// part is a tree, or, now and then, an oddity.
func (g *grower) part(j api.Json) api.Json {
	if g.some(g.odd) == 0 {
		return tree(pick(g.some, oddities...))
	}
	return j
}

// name is one that no node has as yet, more often than not.
func (g *grower) name() string {
	g.made++
	return pick(g.some, "", "", "n.", "m.n.") + pick(g.some, "a", "b", "record", fmt.Sprint("c", g.made), fmt.Sprint("d", g.made), fmt.Sprint("e", g.made))
}

// names are a few names.
func (g *grower) names() api.Json {
	var out []api.Json
	for range g.some(4) {
		out = append(out, g.part(text(pick(g.some, "a", "n.a", "z", "int"))))
	}
	return list(out...)
}

// tree is a tree of a node.
func (g *grower) tree(deep int) api.Json {
	kind := g.some(16)
	switch {
	case deep > 5 || kind < 4 && deep > 0:
		return g.part(text(pick(g.some, words[:8]...)))
	case kind < 6 && deep > 0:
		return g.part(text(pick(g.some, "a", "b", "n.a", "n.b", "m.n.a", "record", "c1", "d2", "e1")))
	case kind < 8:
		var branches []api.Json
		for range 1 + g.some(3) {
			branches = append(branches, g.tree(deep+1))
		}
		return g.part(list(branches...))
	case kind < 10:
		key := pick(g.some, "items", "values")
		word := map[string]string{"items": "array", "values": "map"}[key]
		return g.part(with(with(tree(`{}`), "type", g.part(text(word))), key, g.tree(deep+1)))
	}
	return g.part(g.named(kind, deep))
}

// named is a tree of a node that has a name.
func (g *grower) named(kind, deep int) api.Json {
	j := with(tree(`{}`), "name", g.part(text(g.name())))
	if g.some(3) == 0 {
		j = with(j, "namespace", g.part(text(pick(g.some, "", "n", "m.n"))))
	}
	if g.some(4) == 0 {
		j = with(j, "aliases", g.part(g.names()))
	}
	switch kind {
	case 10:
		return with(with(j, "type", text("fixed")), "size", g.part(number(int64(g.some(1001)))))
	case 11:
		j = with(with(j, "type", text("enum")), "symbols", g.part(list(named("A", 1+g.some(3))...)))
		if g.some(2) == 0 {
			j = with(j, "default", g.part(text(pick(g.some, "A0", "A0", "A0", "A1"))))
		}
		return j
	}
	var fields []api.Json
	for n := range g.some(5) {
		field := with(with(tree(`{}`), "type", g.tree(deep+1)), "name", g.part(text(fmt.Sprint("f", min(n, g.some(60))))))
		if g.some(3) == 0 {
			field = with(field, "default", tree(pick(g.some, oddities...)))
		}
		if g.some(5) == 0 {
			field = with(field, "aliases", g.part(list(named("g", g.some(3))...)))
		}
		fields = append(fields, g.part(field))
	}
	return with(with(j, "type", text("record")), "fields", g.part(list(fields...)))
}

// P12.1, P12.2: trees that hang on no rule.
func TestAnyTrees(t *testing.T) {
	some := random(12)
	counts := map[api.Errno]int{}
	for n := range 30000 {
		g := grower{some: some, odd: []int{30, 300, 3000}[n%3]}
		_, e := check(t, g.tree(0))
		counts[e]++
	}
	for _, e := range []api.Errno{3, 30, 31, 32, 33, 34, 35, 36} {
		if counts[e] < 50 {
			t.Errorf("just %d are refused with %d", counts[e], e)
		}
	}
	if counts[0] < 5000 {
		t.Errorf("just %d are right", counts[0])
	}
}

// P12.1: what is handed out is new memory: it may be changed, and what it was made of too.
func TestMemory(t *testing.T) {
	j := twin(rich())
	was := twin(j)
	s, _ := build.Build(j)
	other, _ := build.Build(j)
	spoil(reflect.ValueOf(&s).Elem())
	if line(other) != richLine || !untouched(reflect.ValueOf(j), reflect.ValueOf(was)) {
		t.Error("a schema was changed, and so was another one, or its tree")
	}
	spoil(reflect.ValueOf(&j).Elem())
	if line(other) != richLine {
		t.Error("a tree was changed, and so was its schema")
	}
}

// spoil changes each part of a value, where it stands, its lists' spare room too.
func spoil(v reflect.Value) {
	switch v.Kind() {
	case reflect.Struct:
		for at := range v.NumField() {
			spoil(v.Field(at))
		}
	case reflect.Slice:
		for at := range v.Cap() {
			spoil(v.Slice(0, v.Cap()).Index(at))
		}
	case reflect.Int, reflect.Int64:
		v.SetInt(v.Int() ^ 5)
	case reflect.String:
		v.SetString(v.String() + "spoiled")
	case reflect.Bool:
		v.SetBool(!v.Bool())
	}
}
