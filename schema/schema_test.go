package schema_test

import (
	"fmt"
	"math"
	"reflect"
	"slices"
	"strings"
	"testing"

	"avocet/api"
	"avocet/jprint"
	"avocet/schema"
)

// The example, in order and with its branches.
func TestExample(t *testing.T) {
	s := api.Schema{Nodes: []api.Node{
		{Kind: api.Record, Name: "r", Fields: []api.Field{{Name: "f", Type: 1}}},
		{Kind: api.Union, Branches: []int{2, 0}},
		{Kind: api.Null},
	}}
	checkRight(t, s, true)
	if !alike(s, with(lay(record("r", union(kind(api.Null), at(0)))), func(s *api.Schema) { s.Nodes[0].Fields[0].Name = "f" })) {
		t.Error("the example is laid otherwise")
	}
	if got := schema.Find(s, "r"); got != 0 {
		t.Errorf("Find of r = %d", got)
	}
	for at, want := range []int{2, 1, 1} {
		if got := schema.Weight(s, at); got != want {
			t.Errorf("Weight of %d = %d", at, got)
		}
	}
}

// P10.1: Named of each kind, and of what is none.
func TestNamed(t *testing.T) {
	for _, kind := range allKinds() {
		if got := schema.Named(kind); got != (kind == 9 || kind == 10 || kind == 14) {
			t.Errorf("Named(%d) is %v", kind, got)
		}
	}
}

// P10.1: Kids of a node of each kind, with what only other kinds have.
func TestKids(t *testing.T) {
	full := api.Node{Name: "a", Aliases: []string{"b"}, Fields: []api.Field{{Name: "a", Type: 3}, {Type: -1}, {Name: "a", Type: 3}, {Type: math.MaxInt, Has: true}, {}}, Symbols: []string{"A"}, Has: true, Default: "A", Size: 4, Items: 77, Branches: []int{5, 5, -2, 0, math.MinInt}}
	for _, kind := range allKinds() {
		for part := range 32 {
			n := full
			n.Kind = kind
			var types, items, branches []int
			items = []int{0}
			if part&1 == 0 {
				n.Items, items = 77, []int{77}
			} else {
				n.Items = 0
			}
			if part&2 == 0 {
				types = []int{3, -1, 3, math.MaxInt, 0}
			} else {
				n.Fields = nil
			}
			if part&4 == 0 {
				branches = []int{5, 5, -2, 0, math.MinInt}
			} else {
				n.Branches = n.Branches[:0]
			}
			if part&8 == 0 {
				n.Name, n.Aliases = "", nil
			}
			if part&16 == 0 {
				n.Symbols, n.Has, n.Default, n.Size = nil, false, "", 0
			}
			var want []int
			switch kind {
			case 9:
				want = types
			case 11, 12:
				want = items
			case 13:
				want = branches
			}
			if got := schema.Kids(n); !slices.Equal(got, want) {
				t.Errorf("Kids(%+v) = %v, not %v", n, got, want)
			}
		}
	}
}

// P10.1, rule 4: what Kids tells is memory of its own.
func TestKidsAreNew(t *testing.T) {
	for _, n := range []api.Node{
		{Kind: api.Union, Branches: []int{1, 2, 3}},
		{Kind: api.Union, Branches: []int{1, 2, 3, 4, 5}[:3]},
		{Kind: api.Record, Fields: []api.Field{{Type: 1}, {Type: 2}, {Type: 3}}},
		{Kind: api.Array, Items: 1}, {Kind: api.Map, Items: 1},
	} {
		want := kids(n)
		got := schema.Kids(n)
		for at := range got[:cap(got)] {
			got[:cap(got)][at] = -7
		}
		if again := schema.Kids(n); !slices.Equal(again, want) || len(n.Branches) > 0 && slices.Contains(n.Branches[:cap(n.Branches)], -7) {
			t.Errorf("what Kids told was changed, and so was %+v", n)
		}
	}
}

// least is the least node of a kind that may be alone but for its kids.
func least(kind int) api.Node {
	n := api.Node{Kind: kind}
	switch kind {
	case 9, 14:
		n.Name = "n"
	case 10:
		n.Name, n.Symbols = "n", []string{"A", "B"}
	case 11, 12:
		n.Items = 1
	case 13:
		n.Branches = []int{1}
	}
	return n
}

// P10.2: of each kind, each part that it has or does not have, alone and with others.
func TestWhatAKindHas(t *testing.T) {
	parts := map[string]func(n *api.Node){
		"Name":     func(n *api.Node) { n.Name = "m" },
		"Aliases":  func(n *api.Node) { n.Aliases = []string{"b"} },
		"Fields":   func(n *api.Node) { n.Fields = []api.Field{{Name: "f", Type: 1}} },
		"Symbols":  func(n *api.Node) { n.Symbols = []string{"A", "C"} },
		"Has":      func(n *api.Node) { n.Has, n.Default = true, "A" },
		"Default":  func(n *api.Node) { n.Has, n.Default = true, "A" },
		"Size":     func(n *api.Node) { n.Size = 1 },
		"Items":    func(n *api.Node) { n.Items = 1 },
		"Branches": func(n *api.Node) { n.Branches = []int{1} },
	}
	for kind := 1; kind <= 14; kind++ {
		n := least(kind)
		below := []api.Node{}
		if kind >= 11 && kind <= 13 {
			below = append(below, api.Node{Kind: 3})
		}
		checkRight(t, api.Schema{Nodes: append([]api.Node{n}, below...)}, true)
		own, _ := has(kind)
		for name, set := range parts {
			changed := n
			set(&changed)
			nodes := append([]api.Node{changed}, below...)
			if kind == 9 && name == "Fields" {
				nodes = append(nodes, api.Node{Kind: 3})
			}
			checkRight(t, api.Schema{Nodes: nodes}, strings.Contains(own, " "+name+" "))
			for _, other := range parts {
				twice := changed
				other(&twice)
				check(t, api.Schema{Nodes: append([]api.Node{twice}, nodes[1:]...)})
			}
		}
		for _, change := range []func(n *api.Node){func(n *api.Node) { n.Has = true }, func(n *api.Node) { n.Default = "A" }, func(n *api.Node) { n.Size = -1 }, func(n *api.Node) { n.Items = -1 }} {
			changed := n
			change(&changed)
			checkRight(t, api.Schema{Nodes: append([]api.Node{changed}, below...)}, false)
		}
		// Lists that are empty are as those that are nil.
		n.Aliases, n.Fields = []string{}, []api.Field{}
		if n.Symbols == nil {
			n.Symbols = []string{}
		}
		if n.Branches == nil {
			n.Branches = []int{}
		}
		checkRight(t, api.Schema{Nodes: append([]api.Node{n}, below...)}, true)
	}
}

// P10.2: what a kind has to have.
func TestWhatAKindHasToHave(t *testing.T) {
	for kind := 1; kind <= 14; kind++ {
		checkRight(t, first(api.Node{Kind: kind}), kind <= 8)
		checkRight(t, lay(list(leaf(api.Node{Kind: kind}))), kind <= 8)
	}
	checkNode(t, api.Node{Kind: api.Record, Name: "r"}, true)
	checkNode(t, api.Node{Kind: api.Fixed, Name: "r"}, true)
	checkNode(t, api.Node{Kind: api.Enum, Name: "r"}, false)
	checkNode(t, api.Node{Kind: api.Enum, Symbols: []string{"A"}}, false)
	checkNode(t, api.Node{Kind: api.Enum, Name: "r", Symbols: []string{"A"}}, true)
	checkNode(t, api.Node{Kind: api.Union}, false)
}

// P10.2: numbers that are no kinds, as any node.
func TestNoKinds(t *testing.T) {
	for _, kind := range allKinds() {
		if kind >= 1 && kind <= 8 {
			for _, root := range []shape{leaf(api.Node{Kind: kind}), list(leaf(api.Node{Kind: kind})), record("r", leaf(api.Node{Kind: kind}))} {
				checkRight(t, lay(root), true)
			}
		} else if kind < 1 || kind > 14 {
			checkNode(t, api.Node{Kind: kind}, false)
			checkNode(t, api.Node{Kind: kind, Name: "r"}, false)
			checkNode(t, api.Node{Kind: kind, Size: 1}, false)
			checkRight(t, api.Schema{Nodes: []api.Node{{Kind: kind, Items: 1}, {Kind: 1}}}, false)
			checkRight(t, api.Schema{Nodes: []api.Node{{Kind: kind, Branches: []int{1}}, {Kind: 1}}}, false)
			checkRight(t, api.Schema{Nodes: []api.Node{{Kind: kind, Name: "r", Fields: []api.Field{{Name: "f", Type: 1}}}, {Kind: 1}}}, false)
		}
	}
}

// P10.2, P10.3: the empty schema, and Root that is not 0.
func TestRoot(t *testing.T) {
	for _, root := range []int{0, 1, -1, math.MinInt, math.MaxInt} {
		checkRight(t, api.Schema{Root: root}, false)
		checkRight(t, api.Schema{Nodes: []api.Node{}, Root: root}, false)
	}
	for _, shape := range []shape{kind(api.Int), list(kind(api.Int)), record("r", at(0)), record("r", union(at(0)), enum("e"), at(2)), union(kind(api.Null), enum("e"))} {
		s := lay(shape)
		for _, root := range []int{1, 2, 3, -1, len(s.Nodes), 1 << 32, math.MinInt, math.MaxInt} {
			s.Root = root
			checkRight(t, s, false)
			if got := schema.Weight(s, 0); got != 0 {
				t.Errorf("Weight of %s = %d", said(s), got)
			}
		}
	}
	// Nodes that stand in order, gone through from another one on, do not stand in order.
	checkRight(t, api.Schema{Nodes: []api.Node{{Kind: 3}, {Kind: 11, Items: 0}}, Root: 1}, false)
	checkRight(t, api.Schema{Nodes: []api.Node{{Kind: 9, Name: "r"}, {Kind: 11, Items: 0}}, Root: 1}, false)
}

// P10.2: nodes in order, and in others.
func TestOrder(t *testing.T) {
	null, text, self := kind(api.Null), kind(api.String), at(0)
	for _, root := range []shape{
		null, list(null), dict(dict(text)), union(null, text), record("r"), record("r", null, null, null), record("r", list(null), dict(text), null),
		record("r", list(self)), record("r", union(null, self), union(self, null), list(self), dict(list(self))),
		record("r", enum("e"), at(1), list(at(1)), union(at(1), self)), list(record("r", fixed("x"), dict(at(1)), at(2), union(at(1), at(2)))),
		record("a", list(record("b", list(record("c", list(self), list(at(2)), list(at(4)))), list(at(4)))), list(at(2)), at(4)),
		union(null, enum("e"), fixed("x"), record("r", at(2), at(3), list(at(4)))), list(enum("e")), record("r", record("s", list(self)), at(1)),
	} {
		checkRight(t, lay(root), true)
	}
	two := []api.Node{{Kind: 9, Name: "r", Fields: []api.Field{{Name: "a", Type: 1}, {Name: "b", Type: 2}}}, {Kind: 11, Items: 3}, {Kind: 3}, {Kind: 1}}
	checkRight(t, api.Schema{Nodes: two}, false) // row by row
	two[1], two[2], two[3] = api.Node{Kind: 11, Items: 2}, api.Node{Kind: 3}, api.Node{Kind: 1}
	checkRight(t, api.Schema{Nodes: two}, false)
	two[0].Fields[1].Type = 3
	checkRight(t, api.Schema{Nodes: two}, true)
	two[0].Fields[0].Type, two[0].Fields[1].Type = 3, 1
	checkRight(t, api.Schema{Nodes: two}, false) // the last kid first
	for _, row := range [][]api.Node{
		{{Kind: 3}, {Kind: 3}}, {{Kind: 11, Items: 1}, {Kind: 3}, {Kind: 3}}, {{Kind: 9, Name: "r"}, {Kind: 1}}, {{Kind: 9, Name: "r"}, {Kind: 9, Name: "s"}}, // no kid
		{{Kind: 11, Items: 2}, {Kind: 3}, {Kind: 3}}, {{Kind: 11, Items: 2}, {Kind: 1}, {Kind: 11, Items: 1}}, {{Kind: 13, Branches: []int{2, 1}}, {Kind: 1}, {Kind: 2}},
		{{Kind: 11, Items: 0}}, {{Kind: 12, Items: 0}}, {{Kind: 13, Branches: []int{0}}}, {{Kind: 11, Items: 1}, {Kind: 11, Items: 0}}, {{Kind: 11, Items: 1}, {Kind: 11, Items: 1}}, // met, without a name
		{{Kind: 9, Name: "r", Fields: []api.Field{{Name: "a", Type: 1}, {Name: "b", Type: 1}}}, {Kind: 3}},
		{{Kind: 9, Name: "r", Fields: []api.Field{{Name: "a", Type: 1}, {Name: "b", Type: 1}}}, {Kind: 13, Branches: []int{2}}, {Kind: 3}},
		{{Kind: 9, Name: "r", Fields: []api.Field{{Name: "a", Type: 2}, {Name: "b", Type: 1}}}, {Kind: 10, Name: "e", Symbols: []string{"A"}}, {Kind: 14, Name: "x"}},
		{{Kind: 3, Name: "n"}, {Kind: 3}}, {{Kind: 13, Branches: []int{1, 1}, Name: "n"}, {Kind: 3, Name: "n"}},
	} {
		checkRight(t, api.Schema{Nodes: row}, false)
		for at := range row {
			if got := schema.Weight(api.Schema{Nodes: row}, at); got != 0 {
				t.Errorf("Weight(%v, %d) = %d", row, at, got)
			}
		}
	}
	met := []api.Node{{Kind: 9, Name: "r", Fields: []api.Field{{Name: "a", Type: 1}, {Name: "b", Type: 1}}}, {}}
	for _, n := range []api.Node{{Kind: 9, Name: "s"}, {Kind: 10, Name: "e", Symbols: []string{"A"}}, {Kind: 14, Name: "x"}} {
		met[1] = n
		checkRight(t, api.Schema{Nodes: met}, true)
	}
}

// P10.2, P10.3: each kid of schemas at each place, below 0 and far above the number of nodes too.
func TestKidsElsewhere(t *testing.T) {
	s := lay(record("r", list(kind(3)), dict(enum("e")), union(kind(1), at(0), at(4)), fixed("x"), record("s", list(at(0)), at(4), at(7)), at(7)))
	checkRight(t, s, true)
	rights := 0
	places := []int{-1, -2, math.MinInt, len(s.Nodes), len(s.Nodes) + 1, 1 << 32, math.MaxInt}
	for place := range s.Nodes {
		places = append(places, place)
	}
	for _, place := range places {
		for at, n := range s.Nodes {
			for kid := range kids(n) {
				changed := with(s, func(s *api.Schema) {
					switch n.Kind {
					case 9:
						s.Nodes[at].Fields[kid].Type = place
					case 13:
						s.Nodes[at].Branches[kid] = place
					default:
						s.Nodes[at].Items = place
					}
				})
				if check(t, changed) {
					rights++
				}
			}
		}
	}
	if rights < 20 {
		t.Errorf("just %d are right", rights)
	}
}

// wide is a record of so many nodes in all, none deep.
func wide(nodes int) shape {
	var of []shape
	for left := nodes - 1; left > 0; {
		size := min(left, 8)
		of = append(of, within(size-1, kind(api.Int)))
		left -= size
	}
	return record("r", of...)
}

// P10.2, P10.3: just MaxNodes nodes, and one more.
func TestNodes(t *testing.T) {
	for nodes := 190; nodes <= 210; nodes++ {
		s := lay(wide(nodes))
		if len(s.Nodes) != nodes {
			t.Fatal(len(s.Nodes))
		}
		checkRight(t, s, nodes <= 200)
		want := 0
		if nodes <= 200 {
			want = 1 + len(s.Nodes[0].Fields)
		}
		if got := schema.Weight(s, 0); got != want {
			t.Errorf("Weight of %d nodes = %d", nodes, got)
		}
		checkRight(t, lay(list(wide(nodes-1))), nodes <= 200)
	}
	var nodes []api.Node
	for n := range 200 {
		nodes = append(nodes, api.Node{Kind: 9, Name: fmt.Sprint("r", n)})
		for k := 3*n + 1; k <= 3*n+3 && k < 200; k++ {
			nodes[n].Fields = append(nodes[n].Fields, api.Field{Name: fmt.Sprint("f", k)})
		}
	}
	checkRight(t, api.Schema{Nodes: nodes}, false)
	for _, most := range []int{201, 1000, 100000} {
		s := api.Schema{Nodes: slices.Repeat([]api.Node{{Kind: 3}}, most)}
		if schema.Right(s) || schema.Weight(s, 0) != 0 || schema.Weight(s, most-1) != 0 {
			t.Errorf("%d nodes may be", most)
		}
	}
}

// P10.2, P10.3: nodes just MaxDepth deep, and one deeper, in each kind that has kids.
func TestDepth(t *testing.T) {
	name := 0
	one := func(form byte, of shape) shape {
		name++
		switch form {
		case '[':
			return list(of)
		case '<':
			return dict(of)
		case '(':
			return union(kind(api.Null), of)
		}
		return record(fmt.Sprint("r", name), of)
	}
	forms := []string{"[", "<", "{", "[<", "({", "{(", "([", "[(", "<({", "[<{"}
	for _, form := range forms {
		form = strings.Repeat(form, 40)
		for deep := 28; deep <= 36; deep++ {
			for _, end := range []shape{kind(api.Long), fixed("x"), record("end")} {
				root := end
				for place := deep - 1; place >= 0; place-- {
					root = one(form[place], root)
				}
				s := lay(root)
				checkRight(t, s, deep <= 32)
				last := len(s.Nodes) - 1
				if got := schema.Weight(s, last); got != 1 && deep <= 32 || got != 0 && deep > 32 {
					t.Errorf("Weight of the last one, %d deep, = %d", deep, got)
				}
				// Beside it stands what is less deep, ahead or behind.
				if deep > 28 {
					name++
					top := fmt.Sprint("top", name)
					inner := root
					checkRight(t, lay(record(top, within(20, kind(1)), inner, within(5, kind(2)))), deep <= 31)
				}
			}
		}
	}
	// A node is as deep as it was met first: 32 deep, and once more below what is no less deep.
	checkRight(t, lay(record("r", within(31, enum("e")), within(31, at(32)), at(32))), true)
	checkRight(t, lay(record("r", enum("e"), within(31, at(1)))), true)
	checkRight(t, lay(record("r", enum("e"), within(32, at(1)))), true)
	checkRight(t, lay(record("r", enum("e"), within(33, at(1)))), false)
	checkRight(t, lay(record("r", within(32, enum("e")))), false)
	// 33 nodes, or many more, below one another.
	for _, deep := range []int{33, 100, 199, 200, 5000} {
		s := lay(within(deep, kind(1)))
		if schema.Right(s) || schema.Weight(s, 0) != 0 {
			t.Errorf("%d deep may be", deep)
		}
	}
	for _, more := range []int{0, 1, 2, 15} {
		checkRight(t, lay(record("r", slices.Concat(times(5, within(31-more, kind(1))), []shape{within(20, kind(2))})...)), true)
	}
}

// P10.2: 0, 1, MaxBranches and more branches.
func TestBranches(t *testing.T) {
	// Kinds without names are 10 but for the union; the others have names.
	all := []shape{kind(1), kind(2), kind(3), kind(4), kind(5), kind(6), kind(7), kind(8), list(kind(1)), dict(kind(1)), enum("e"), fixed("x"), record("r"), enum("e2"), fixed("x2"), record("r2")}
	for size := range len(all) + 1 {
		checkRight(t, lay(union(all[:size]...)), size >= 1 && size <= 10)
		reversed := slices.Clone(all)
		slices.Reverse(reversed)
		checkRight(t, lay(union(reversed[:size]...)), size >= 1 && size <= 10)
		var enums []shape
		for n := range size {
			enums = append(enums, enum(fmt.Sprint("e", n)))
		}
		checkRight(t, lay(union(enums...)), size >= 1 && size <= 10)
		checkRight(t, lay(record("r", list(union(all[:size]...)))), size >= 1 && size <= 10 && size < 13)
	}
	var many []shape
	for n := range 150 {
		many = append(many, fixed(fmt.Sprint("x", n)))
	}
	checkRight(t, lay(union(many...)), false)
}

// P10.2: branches by their kinds, two by two.
func TestBranchesAlike(t *testing.T) {
	one := func(kind int, name string) shape {
		switch kind {
		case 9:
			return record(name)
		case 10:
			return enum(name)
		case 11:
			return list(leaf(api.Node{Kind: 3}))
		case 12:
			return dict(leaf(api.Node{Kind: 4}))
		case 13:
			return union(leaf(api.Node{Kind: 5}))
		case 14:
			return fixed(name)
		}
		return leaf(api.Node{Kind: kind})
	}
	for a := 1; a <= 14; a++ {
		checkRight(t, lay(union(one(a, "a"))), a != 13)
		for b := 1; b <= 14; b++ {
			want := a != 13 && b != 13 && (a != b || named(a))
			checkRight(t, lay(union(one(a, "a"), one(b, "b"))), want)
			checkRight(t, lay(union(one(a, "a"), enum("other"), one(b, "b"))), want)
			checkRight(t, lay(union(enum("other"), fixed("another"), one(a, "a"), record("more"), one(b, "b"))), want)
			checkRight(t, lay(list(union(one(a, "a"), one(b, "b"), enum("other")))), want)
		}
	}
	// The same node twice, next to each other and not.
	for _, root := range []shape{
		union(enum("e"), at(1)), union(fixed("x"), at(1)), union(record("r"), at(1)), union(enum("e"), kind(1), at(1)), union(kind(1), enum("e"), kind(2), at(2)),
		record("r", union(at(0), at(0))), record("r", union(kind(1), at(0), at(0))), record("r", union(at(0), kind(1), at(0))), record("r", enum("e"), union(at(0), at(1), at(0))), record("r", enum("e"), union(at(1), at(0), at(1))),
	} {
		checkRight(t, lay(root), false)
	}
	// Once in each of several unions, and in one within.
	for _, root := range []shape{
		record("r", union(at(0), kind(1)), union(kind(1), at(0)), union(at(0))), record("r", enum("e"), union(at(0), at(1)), union(at(1), at(0)), at(1)),
		union(enum("e"), list(union(at(1), kind(1), list(union(at(1)))))), union(list(union(list(kind(1)), dict(kind(1)))), dict(union(list(kind(1)), dict(kind(1))))),
		union(kind(1), record("r", union(kind(1), at(2)))),
	} {
		checkRight(t, lay(root), true)
	}
	// A union in a union, as each branch.
	for _, root := range []shape{
		union(union(kind(1))), union(kind(1), union(kind(2))), union(union(kind(1)), kind(2)), union(kind(1), kind(2), union(kind(3)), kind(4)), list(union(kind(1), union(kind(2)))), union(kind(1), list(union(union(kind(2))))),
	} {
		checkRight(t, lay(root), false)
	}
	checkRight(t, lay(union(list(union(list(union(kind(1))))))), true)
}

// namedNodes is a node of each kind that has a name, with that name.
func namedNodes(name string) []api.Node {
	return []api.Node{
		{Kind: api.Record, Name: name},
		{Kind: api.Enum, Name: name, Symbols: []string{"A"}},
		{Kind: api.Fixed, Name: name, Size: 3},
	}
}

// someNames are texts, and whether they are full names and simple ones.
func someNames() map[string][2]bool {
	out := map[string][2]bool{
		"n": {true, true}, "_": {true, true}, "A9": {true, true}, "a.b": {true, false}, "a.b.c": {true, false}, "union": {true, true}, "Null": {true, true}, "ints": {true, true}, "a.int": {true, false}, "int.a": {true, false}, "x.null": {true, false},
		a(99): {true, true}, a(100): {true, true}, a(50) + "." + a(49): {true, false}, a(101): {}, a(50) + "." + a(50): {}, a(1000): {},
		"": {}, ".": {}, ".a": {}, "a.": {}, "a..b": {}, "9": {}, "a.9": {}, "a-b": {}, "a b": {}, "ä": {}, "a\x00": {}, "a\n": {}, "\xff": {},
	}
	for _, word := range strings.Fields(kindWords) {
		out[word] = [2]bool{true, true}
	}
	return out
}

// P10.2: names, and what is none; a kind's word is none.
func TestNames(t *testing.T) {
	for name, is := range someNames() {
		want := is[0] && !strings.Contains(kindWords, " "+name+" ")
		for _, n := range namedNodes(name) {
			checkNode(t, n, want)
		}
	}
	for _, word := range strings.Fields(kindWords) {
		for _, n := range namedNodes(word) {
			checkNode(t, n, false)
		}
	}
}

// P10.2: aliases of nodes, one and several, just MaxFields, and one more.
func TestAliases(t *testing.T) {
	for name, is := range someNames() {
		for _, n := range namedNodes("n") {
			n.Aliases = []string{name}
			checkNode(t, n, is[0])
			n.Aliases = []string{name, "b"}
			checkNode(t, n, is[0])
			n.Aliases = []string{"a.b", "b", name}
			checkNode(t, n, is[0])
			n.Aliases = slices.Concat(slices.Repeat([]string{"b"}, 39), []string{name})
			checkRight(t, first(n), is[0])
		}
	}
	for _, n := range namedNodes("n") {
		for size := range 50 {
			n.Aliases = nil
			for at := range size {
				n.Aliases = append(n.Aliases, fmt.Sprint("a.b", at))
			}
			checkRight(t, first(n), size <= 40)
			n.Aliases = slices.Repeat([]string{"n"}, size)
			checkRight(t, lay(list(leaf(n))), size <= 40)
		}
		n.Aliases = slices.Repeat([]string{"a"}, 100000)
		if schema.Right(first(n)) {
			t.Error("far too many aliases may be")
		}
	}
}

// fields is a schema of a record of those fields, each with a type of its own.
func fields(fields ...api.Field) api.Schema {
	s := first(api.Node{Kind: api.Record, Name: "n", Fields: fields})
	for at := range s.Nodes[0].Fields {
		s.Nodes[0].Fields[at].Type = len(s.Nodes)
		s.Nodes = append(s.Nodes, api.Node{Kind: api.Long})
	}
	return s
}

// checkFields holds a record of those fields as checkRight does: alone, and as a part of others.
func checkFields(t *testing.T, want bool, of ...api.Field) {
	t.Helper()
	s := fields(of...)
	checkRight(t, s, want)
	inner := func(to *api.Schema) int {
		first := len(to.Nodes)
		moved := twin(s)
		for at := range moved.Nodes[0].Fields {
			moved.Nodes[0].Fields[at].Type += first
		}
		to.Nodes = append(to.Nodes, moved.Nodes...)
		return first
	}
	checkRight(t, lay(list(inner)), want)
	checkRight(t, lay(record("other", kind(1), inner, at(2))), want)
}

// P10.2: names of fields, and how many there are.
func TestFields(t *testing.T) {
	for name, is := range someNames() {
		checkFields(t, is[1], api.Field{Name: name})
		checkFields(t, is[1], api.Field{Name: name}, api.Field{Name: "b"})
		checkFields(t, is[1], api.Field{Name: "b"}, api.Field{Name: "c"}, api.Field{Name: name})
		checkFields(t, false, api.Field{Name: name}, api.Field{Name: name})
		checkFields(t, false, api.Field{Name: name}, api.Field{Name: "b"}, api.Field{Name: name})
	}
	checkFields(t, true)
	for size := range 50 {
		var of []api.Field
		for at := range size {
			of = append(of, api.Field{Name: fmt.Sprint("f", at)})
		}
		checkFields(t, size <= 40, of...)
		if size < 2 {
			continue
		}
		for _, pair := range [][2]int{{0, 1}, {0, size - 1}, {size - 2, size - 1}, {size / 2, size - 1}} {
			if pair[0] != pair[1] {
				twice := slices.Clone(of)
				twice[pair[1]].Name = twice[pair[0]].Name
				checkFields(t, false, twice...)
			}
		}
	}
	// A field may have the name of its record, of another's field, and differ just in its case.
	checkFields(t, true, api.Field{Name: "n"}, api.Field{Name: "N"}, api.Field{Name: "other"}, api.Field{Name: "f0"}, api.Field{Name: "int"})
	// Fields of a type that is met already.
	s := fields(slices.Repeat([]api.Field{{}}, 41)...)
	for at := range s.Nodes[0].Fields {
		s.Nodes[0].Fields[at] = api.Field{Name: fmt.Sprint("f", at), Type: 1}
	}
	s.Nodes = []api.Node{s.Nodes[0], {Kind: api.Fixed, Name: "x"}}
	checkRight(t, s, false)
	s.Nodes[0].Fields = s.Nodes[0].Fields[:40]
	checkRight(t, s, true)
	s.Nodes[0].Fields = slices.Repeat([]api.Field{{Name: "f", Type: 1}}, 100000)
	if schema.Right(s) || schema.Weight(s, 0) != 1001 || schema.Weight(s, 1) != 1 {
		t.Error("far too many fields may be")
	}
}

// P10.2: aliases of fields.
func TestFieldAliases(t *testing.T) {
	for name, is := range someNames() {
		checkFields(t, is[1], api.Field{Name: "a", Aliases: []string{name}})
		checkFields(t, is[1], api.Field{Name: "a", Aliases: []string{"b", name}}, api.Field{Name: "b"})
		checkFields(t, is[1], api.Field{Name: "b", Aliases: []string{"a"}}, api.Field{Name: "a", Aliases: []string{name, name, "b"}})
	}
	for size := range 50 {
		of := api.Field{Name: "a"}
		for at := range size {
			of.Aliases = append(of.Aliases, fmt.Sprint("b", at))
		}
		checkFields(t, size <= 40, of)
		checkFields(t, size <= 40, api.Field{Name: "b", Aliases: []string{"c"}}, of, api.Field{Name: "d"})
		of.Aliases = slices.Repeat([]string{"a"}, size)
		checkFields(t, size <= 40, of)
	}
}

// deepJson is a tree that many deep.
func deepJson(deep int) api.Json {
	j := api.Json{Kind: api.JInt}
	for range deep {
		j = api.Json{Kind: api.JList, Items: []api.Json{j}}
	}
	return j
}

// P10.2: defaults that may be and may not, with Has and without.
func TestDefaults(t *testing.T) {
	null := api.Json{Kind: api.JNull}
	may := []api.Json{
		null, {Kind: api.JBool}, {Kind: api.JBool, Int: 1}, {Kind: api.JInt, Int: math.MinInt64}, {Kind: api.JInt}, {Kind: api.JText}, {Kind: api.JText, Text: "ä"}, {Kind: api.JList}, {Kind: api.JList, Items: []api.Json{null, {Kind: api.JObj}}},
		{Kind: api.JObj}, {Kind: api.JObj, Items: []api.Json{null, null}, Keys: []string{"", "a"}}, deepJson(32), {Kind: api.JText, Text: a(30000)},
	}
	mayNot := []api.Json{
		{}, {Int: 1}, {Text: "a"}, {Items: []api.Json{null}}, {Items: []api.Json{{}}}, {Keys: []string{"a"}}, {Keys: []string{""}}, {Kind: 7}, {Kind: -1}, {Kind: api.JNull, Int: 1}, {Kind: api.JBool, Int: 2}, {Kind: api.JInt, Text: "a"}, {Kind: api.JText, Text: "\xff"}, {Kind: api.JText, Int: 1},
		{Kind: api.JList, Items: []api.Json{{}}}, {Kind: api.JList, Keys: []string{"a"}}, {Kind: api.JObj, Items: []api.Json{null}}, {Kind: api.JObj, Items: []api.Json{null, null}, Keys: []string{"a", "a"}}, {Kind: api.JObj, Items: []api.Json{null}, Keys: []string{"\xff"}}, deepJson(33),
	}
	for _, j := range append(may, mayNot...) {
		right := jprint.Right(j)
		zero := empty(reflect.ValueOf(j))
		for _, has := range []bool{true, false} {
			f := api.Field{Name: "a", Has: has, Default: j}
			want := has && right || !has && zero
			checkFields(t, want, f)
			checkFields(t, want, f, api.Field{Name: "b"})
			checkFields(t, want, api.Field{Name: "b", Has: true, Default: null}, f)
			checkFields(t, want, api.Field{Name: "b"}, f, api.Field{Name: "c", Has: true, Default: null})
		}
	}
	checkFields(t, true, api.Field{Name: "a", Default: api.Json{Items: []api.Json{}, Keys: []string{}}})
	for at, j := range append(may, mayNot...) {
		if right := jprint.Right(j); right != (at < len(may)) {
			t.Fatalf("the default %d is right: %v", at, right)
		}
	}
	// A tree that stands in itself.
	items := []api.Json{{Kind: api.JList}}
	items[0].Items = items
	for _, has := range []bool{true, false} {
		if schema.Right(fields(api.Field{Name: "a", Has: has, Default: items[0]})) {
			t.Error("a default that stands in itself may be")
		}
	}
}

// P10.2: symbols, and the default among them.
func TestSymbols(t *testing.T) {
	n := api.Node{Kind: api.Enum, Name: "n"}
	symbols := func(texts ...string) api.Node {
		n.Symbols = texts
		return n
	}
	checkNode(t, symbols(), false)
	for name, is := range someNames() {
		checkNode(t, symbols(name), is[1])
		checkNode(t, symbols(name, "B"), is[1])
		checkNode(t, symbols("B", "C", name), is[1])
		checkRight(t, first(symbols(name, name)), false)
		checkRight(t, first(symbols(name, "B", name)), false)
		checkRight(t, first(symbols("B", name, "C", name)), false)
	}
	for size := range 50 {
		var texts []string
		for at := range size {
			texts = append(texts, fmt.Sprint("S", at))
		}
		checkRight(t, first(symbols(texts...)), size >= 1 && size <= 40)
		checkRight(t, lay(union(kind(1), leaf(symbols(texts...)))), size >= 1 && size <= 40)
		for at := range size {
			with := symbols(texts...)
			with.Has, with.Default = true, texts[at]
			checkRight(t, first(with), size <= 40)
			with.Has = false
			checkRight(t, first(with), false)
			twice := symbols(slices.Clone(texts)...)
			twice.Symbols[at] = "S0"
			checkRight(t, first(twice), at == 0 && size <= 40)
		}
	}
	n.Symbols = nil
	for _, has := range []bool{true, false} {
		for _, text := range []string{"", "A", "B", "C", "a", "A ", "AB", "n"} {
			n.Has, n.Default = has, text
			checkNode(t, symbols("A", "B"), has && (text == "A" || text == "B") || !has && text == "")
			checkNode(t, symbols(), false)
			checkNode(t, symbols(""), false)
			checkNode(t, symbols("", "A"), false)
		}
	}
	n.Has, n.Default = false, ""
	if schema.Right(first(symbols(slices.Repeat([]string{"A"}, 100000)...))) {
		t.Error("far too many symbols may be")
	}
}

// P10.2: sizes at both ends, and beyond.
func TestSizes(t *testing.T) {
	for _, size := range []int{math.MinInt, math.MinInt + 1, -1 << 32, -1000, -2, -1, 0, 1, 2, 999, 1000, 1001, 1002, 20000, 1 << 32, 1<<32 + 1, math.MaxInt - 1, math.MaxInt} {
		checkNode(t, api.Node{Kind: api.Fixed, Name: "n", Size: size}, size >= 0 && size <= 1000)
	}
}

// P10.2: two nodes of one name, of each two kinds, wherever they stand.
func TestNamesTwice(t *testing.T) {
	for _, one := range namedNodes("a.n") {
		for _, other := range append(namedNodes("a.n"), append(namedNodes("n"), namedNodes("b.n")...)...) {
			want := other.Name != one.Name
			a, b := leaf(one), leaf(other)
			for _, root := range []shape{
				union(a, b), record("r", a, b), record("r", a, list(kind(1)), list(b)), record("r", list(list(a)), b, at(3)), list(union(kind(1), a, kind(2), list(b))), record("r", enum("e"), a, fixed("x"), b), record("r", record("s", a), record("t", b)),
			} {
				checkRight(t, lay(root), want)
			}
		}
	}
	checkRight(t, lay(record("n", record("n"))), false)
	checkRight(t, lay(record("n", record("m", list(enum("n"))))), false)
	checkRight(t, lay(record("n", record("m", enum("o"), enum("p")), enum("q"), at(0+2))), true)
	for _, pair := range [][2]int{{0, 1}, {0, 39}, {38, 39}, {17, 23}} {
		var of []shape
		for n := range 40 {
			name := fmt.Sprint("e", n)
			if n == pair[1] {
				name = fmt.Sprint("e", pair[0])
			}
			of = append(of, enum(name))
		}
		checkRight(t, lay(record("r", of...)), false)
	}
	// Aliases are no names: they may be those of others, and their own.
	s := lay(record("r", enum("e"), fixed("x")))
	s.Nodes[0].Aliases, s.Nodes[1].Aliases, s.Nodes[2].Aliases = []string{"e", "x", "r"}, []string{"r", "r"}, []string{"e"}
	checkRight(t, s, true)
	// Nodes without names are no two of one name.
	checkRight(t, lay(record("r", kind(1), kind(1), kind(2), list(kind(1)), list(kind(1)))), true)
}

// heavy is a record that weighs so much, 3 at least, of records that have others as parts more than once.
func heavy(weight int) shape {
	names := 0
	var build func(weight int) shape
	build = func(weight int) shape {
		names++
		name := fmt.Sprint("w", names)
		if weight <= 40 {
			return record(name, times(weight-1, kind(api.Int))...)
		}
		// 9 times the same record, and what is left in numbers.
		part := min((weight-1)/9, 111)
		rest := weight - 1 - 9*part
		return func(s *api.Schema) int {
			inner := build(part)
			var place int
			of := []shape{func(s *api.Schema) int { place = inner(s); return place }}
			for range 8 {
				of = append(of, func(*api.Schema) int { return place })
			}
			for rest > 31 {
				of = append(of, build(31))
				rest -= 31
			}
			of = append(of, times(rest, kind(api.Int))...)
			return record(name, of...)(s)
		}
	}
	return build(weight)
}

// P10.2, P10.3: weights of any size, just MaxParts and one more too.
func TestWeights(t *testing.T) {
	for weight := 3; weight <= 1010; weight++ {
		if weight > 130 && weight < 960 && weight%37 != 0 {
			continue
		}
		s := lay(heavy(weight))
		checkRight(t, s, weight <= 1000)
		if got := schema.Weight(s, 0); got != min(weight, 1001) {
			t.Fatalf("Weight of what weighs %d = %d", weight, got)
		}
		// What is no field weighs one; a record around it is heavier by one, or by two records' weights.
		for _, one := range []shape{list(heavy(weight)), dict(heavy(weight)), union(heavy(weight), kind(1))} {
			s = lay(one)
			checkRight(t, s, weight <= 1000)
			if schema.Weight(s, 0) != 1 || schema.Weight(s, 1) != min(weight, 1001) {
				t.Fatalf("Weight of %s: %d, %d", said(s), schema.Weight(s, 0), schema.Weight(s, 1))
			}
		}
		s = lay(record("r", heavy(weight)))
		checkRight(t, s, weight <= 999)
		if got := schema.Weight(s, 0); got != min(weight+1, 1001) {
			t.Fatalf("Weight of one more than %d = %d", weight, got)
		}
		s = lay(record("r", list(heavy(weight)), at(2), at(2)))
		checkRight(t, s, 2*weight+2 <= 1000)
		if got := schema.Weight(s, 0); got != min(2*weight+2, 1001) {
			t.Fatalf("Weight of two more than twice %d = %d", weight, got)
		}
	}
}

// P10.2, P10.3: parts of parts, so many that no number holds how many they are.
func TestGreatWeights(t *testing.T) {
	root := record("end", kind(1), kind(2))
	for n := range 30 {
		inner := root
		var place int
		of := []shape{func(s *api.Schema) int { place = inner(s); return place }}
		for range 39 {
			of = append(of, func(*api.Schema) int { return place })
		}
		root = record(fmt.Sprint("r", n), of...)
	}
	s := lay(root)
	checkRight(t, s, false)
	last := len(s.Nodes) - 3
	for at := range s.Nodes {
		want := 1001
		switch {
		case at > last:
			want = 1
		case at == last:
			want = 3
		case at == last-1:
			want = 1 + 40*3
		}
		if got := schema.Weight(s, at); got != want {
			t.Errorf("Weight of the node %d = %d, not %d", at, got, want)
		}
	}
}

// P10.2, P10.3: records that are parts of themselves, by fields alone or not.
func TestPartsOfThemselves(t *testing.T) {
	null := kind(api.Null)
	for _, row := range []struct {
		root    shape
		weights []int
	}{
		{record("r", at(0)), []int{1001}},
		{record("r", null, at(0), null), []int{1001, 1, 1}},
		{record("r", record("s", at(0))), []int{1001, 1001}},
		{record("r", record("s", at(1))), []int{1001, 1001}},
		{record("r", record("s", record("t", at(0)), at(2), enum("e"))), []int{1001, 1001, 1001, 1}},
		{record("r", record("s", record("t", at(1)), at(2))), []int{1001, 1001, 1001}},
		{record("r", null, record("s", null), record("t", at(2), at(4))), []int{1001, 1, 2, 1, 1001}},
		{record("r", list(record("s", at(2))), null), []int{3, 1, 1001, 1}},
		{list(record("r", union(null, record("s", at(4))))), []int{1, 2, 1, 1, 1001}},
		{record("r", list(at(0))), []int{2, 1}},
		{record("r", dict(at(0))), []int{2, 1}},
		{record("r", union(at(0))), []int{2, 1}},
		{record("r", union(null, at(0)), union(null, at(0))), []int{3, 1, 1, 1, 1}},
		{record("r", record("s", list(at(0))), at(1)), []int{5, 2, 1}},
		{record("r", list(record("s", at(0))), at(2)), []int{1001, 1, 1001}},
		{record("r", list(record("s", at(0)))), []int{2, 1, 3}},
		{record("r", record("s", record("t", union(null, at(0), at(1), at(2)), at(3)))), nil},
		{record("r", record("s", record("t", union(null, at(0), at(1), at(2))))), []int{4, 3, 2, 1, 1}},
	} {
		s := lay(row.root)
		if row.weights == nil {
			checkRight(t, s, false)
			continue
		}
		checkRight(t, s, !slices.Contains(row.weights, 1001))
		for at, want := range row.weights {
			if got := schema.Weight(s, at); got != want {
				t.Errorf("Weight(%s, %d) = %d, not %d", said(s), at, got, want)
			}
		}
	}
	// A record that is met while another one is weighed, asked for in any order.
	s := lay(record("a", list(record("b", record("c", list(at(0)), at(4)), at(3))), at(2)))
	check(t, s)
}

// P10.3: Weight of nodes that may not be, but stand in order.
func TestWeightsOfWhatMayNotBe(t *testing.T) {
	for _, row := range []struct {
		s    api.Schema
		want []int
	}{
		{first(api.Node{}), []int{1}}, {first(api.Node{Kind: -7}), []int{1}}, {first(api.Node{Kind: 15, Items: 3}), []int{1}},
		{first(api.Node{Kind: 3, Name: "a", Fields: []api.Field{{Type: 0}, {Type: 9}}, Branches: []int{-1}}), []int{1}},
		{api.Schema{Nodes: []api.Node{{Kind: 9, Fields: []api.Field{{Type: 1}, {Type: 1}, {Type: 2}}, Items: -3}, {Kind: 9}, {Kind: 13}}}, []int{4, 1, 1}},
		{api.Schema{Nodes: []api.Node{{Kind: 10, Fields: []api.Field{{Type: 1}}}}}, []int{1}},
		{api.Schema{Nodes: []api.Node{{Kind: 13, Branches: []int{1, 1, 0 + 2}, Fields: []api.Field{{Type: 0}}}, {Kind: 14}, {Kind: 13, Branches: []int{3}}, {Kind: 0}}}, []int{1, 1, 1, 1}},
		{api.Schema{Nodes: []api.Node{{Kind: 11, Items: 1, Name: "a", Fields: []api.Field{{Type: 1}}}, {Kind: 9, Fields: slices.Repeat([]api.Field{{Type: 1}}, 1)}}}, []int{1, 1001}},
		{api.Schema{Nodes: []api.Node{{Kind: 9, Fields: slices.Repeat([]api.Field{{Type: 1}}, 999)}, {Kind: 14}}}, []int{1000, 1}},
		{api.Schema{Nodes: []api.Node{{Kind: 9, Fields: slices.Repeat([]api.Field{{Type: 1}}, 1000)}, {Kind: 14}}}, []int{1001, 1}},
		{api.Schema{Nodes: []api.Node{{Kind: 9, Fields: slices.Repeat([]api.Field{{Type: 1}}, 1001)}, {Kind: 14}}}, []int{1001, 1}},
	} {
		checkRight(t, row.s, false)
		for at, want := range row.want {
			if got := schema.Weight(row.s, at); got != want {
				t.Errorf("Weight(%s, %d) = %d, not %d", said(row.s), at, got, want)
			}
		}
	}
}

// rich is a schema in which each part that there is has something, also what may not be.
func rich() api.Schema {
	j := api.Json{Kind: 6, Int: 4, Text: "t", Items: []api.Json{{Kind: 5, Items: []api.Json{{Kind: 3, Int: 7}, {Text: "u"}}}, {Kind: 1}}, Keys: []string{"k", "l"}}
	field := api.Field{Name: "f", Aliases: []string{"g", "h"}, Type: 1, Has: true, Default: j}
	n := api.Node{Kind: 9, Name: "n", Aliases: []string{"m", "o"}, Fields: []api.Field{field, {Name: "p"}}, Symbols: []string{"A", "B"}, Has: true, Default: "A", Size: 3, Items: 2, Branches: []int{0, 2}}
	return api.Schema{Nodes: []api.Node{n, {Kind: 1}, n}, Root: 1}
}

// changes are all ways to change just one thing in a value, each made in a value of its own.
func changes(v reflect.Value) []func() reflect.Value {
	var out []func() reflect.Value
	set := func(change func(at reflect.Value)) {
		out = append(out, func() reflect.Value {
			at := reflect.New(v.Type()).Elem()
			at.Set(v)
			change(at)
			return at
		})
	}
	switch v.Kind() {
	case reflect.Struct:
		for at := range v.NumField() {
			for _, changed := range changes(v.Field(at)) {
				set(func(v reflect.Value) { v.Field(at).Set(changed()) })
			}
		}
	case reflect.Slice:
		items := func(from, to int) reflect.Value {
			return reflect.AppendSlice(reflect.Zero(v.Type()), v.Slice(from, to))
		}
		size := v.Len()
		for at := range size {
			for _, changed := range changes(v.Index(at)) {
				set(func(to reflect.Value) {
					to.Set(items(0, size))
					to.Index(at).Set(changed())
				})
			}
			set(func(to reflect.Value) { to.Set(reflect.AppendSlice(items(0, at), items(at+1, size))) })
		}
		set(func(to reflect.Value) { to.Set(reflect.Append(items(0, size), reflect.Zero(v.Type().Elem()))) })
		if size > 0 {
			set(func(to reflect.Value) { to.Set(reflect.Append(items(0, size), v.Index(0))) })
		}
	case reflect.Int, reflect.Int64:
		for _, n := range []int64{v.Int() + 1, v.Int() - 1, v.Int() ^ 1<<32, -1 - v.Int(), 0} {
			if n != v.Int() {
				set(func(to reflect.Value) { to.SetInt(n) })
			}
		}
	case reflect.String:
		for _, s := range []string{v.String() + "a", "a" + v.String(), v.String() + "\x00", strings.ToUpper(v.String()), strings.ToLower(v.String()), ""} {
			if s != v.String() {
				set(func(to reflect.Value) { to.SetString(s) })
			}
		}
	case reflect.Bool:
		set(func(to reflect.Value) { to.SetBool(!v.Bool()) })
	}
	return out
}

// schemaChanges are all ways to change just one thing in a schema.
func schemaChanges(s api.Schema) []func() api.Schema {
	var out []func() api.Schema
	for _, change := range changes(reflect.ValueOf(s)) {
		out = append(out, func() api.Schema { return change().Interface().(api.Schema) })
	}
	return out
}

// checkSame holds Same of two schemas against the chapter's words, either way about.
func checkSame(t *testing.T, a, b api.Schema) {
	t.Helper()
	want := alike(a, b)
	if schema.Same(a, b) != want || schema.Same(b, a) != want {
		t.Fatalf("Same(%s, %s) is %v, %v", said(a), said(b), schema.Same(a, b), schema.Same(b, a))
	}
}

// P10.3: Same of schemas that differ in one thing alone, and of those that do not.
func TestSame(t *testing.T) {
	roots := []api.Schema{
		rich(), {}, {Root: 1}, {Nodes: []api.Node{}}, {Nodes: []api.Node{{}}}, {Nodes: []api.Node{{}, {}}}, first(api.Node{Kind: 3}),
		lay(record("r", union(kind(1), at(0)), enum("e"), list(at(4)))), fields(api.Field{Name: "a", Has: true, Default: deepJson(30)}),
	}
	for _, s := range roots {
		checkSame(t, s, s)
		checkSame(t, s, twin(s))
		if !schema.Same(s, twin(s)) {
			t.Errorf("%s is not the same as itself", said(s))
		}
		for _, other := range roots {
			checkSame(t, s, other)
		}
		for _, changed := range schemaChanges(s) {
			other := changed()
			if alike(s, other) {
				t.Fatalf("%s was not changed", said(s))
			}
			checkSame(t, s, other)
		}
	}
	if many := len(schemaChanges(rich())); many < 200 {
		t.Errorf("just %d changes", many)
	}
	empty := rich()
	empty.Nodes[1] = api.Node{Kind: 1, Aliases: []string{}, Fields: []api.Field{}, Symbols: []string{}, Branches: []int{}}
	empty.Nodes[0].Fields[1].Aliases, empty.Nodes[0].Fields[1].Default = []string{}, api.Json{Items: []api.Json{}, Keys: []string{}}
	if !schema.Same(rich(), empty) || !schema.Same(empty, rich()) {
		t.Error("lists that are empty differ from those that are nil")
	}
	if !schema.Same(api.Schema{}, api.Schema{Nodes: []api.Node{}}) {
		t.Error("no nodes differ from none")
	}
}

// P10.3: Find of names, of what is none, and of what several have.
func TestFind(t *testing.T) {
	s := lay(record("n.r", enum("e"), union(fixed("n.x"), at(0)), list(at(1)), record("e.r", kind(3))))
	for name, want := range map[string]int{"n.r": 0, "e": 1, "n.x": 3, "e.r": 5, "": -1, "r": -1, "x": -1, "n": -1, "N.R": -1, "n.r ": -1, "n.e": -1, "int": -1, "f0": -1, "A": -1, ".": -1, "n.r\x00": -1} {
		if got := schema.Find(s, name); got != want {
			t.Errorf("Find of %q = %d, not %d", name, got, want)
		}
	}
	// Aliases are no names.
	s.Nodes[0].Aliases = []string{"other"}
	if got := schema.Find(s, "other"); got != -1 {
		t.Errorf("Find of an alias = %d", got)
	}
	for kind := -1; kind <= 16; kind++ {
		for _, name := range []string{"a", ""} {
			s := api.Schema{Nodes: []api.Node{{Kind: 1}, {Kind: kind, Name: name}, {Kind: 14, Name: name}, {Kind: 9, Name: name}}, Root: 3}
			want := 2
			if named(kind) {
				want = 1
			}
			if got := schema.Find(s, name); got != want {
				t.Errorf("Find of %q with the kind %d ahead = %d, not %d", name, kind, got, want)
			}
			checkFind(t, s, "a", "b")
			s.Nodes = s.Nodes[:2]
			checkFind(t, s, "a", "b")
			s.Nodes = s.Nodes[:1]
			checkFind(t, s, "a", "b")
		}
	}
	if schema.Find(api.Schema{}, "") != -1 || schema.Find(api.Schema{}, "a") != -1 {
		t.Error("a name is found where no node is")
	}
}

// P10.3: Copy of schemas of every shape, with each part of the copy changed behind it.
func TestCopy(t *testing.T) {
	for _, s := range []api.Schema{
		rich(), {}, {Root: -3}, {Nodes: []api.Node{}}, {Nodes: []api.Node{{}}}, lay(record("r", union(kind(1), at(0)), enum("e"), fixed("x"), dict(list(at(4))))), lay(within(100, union())), lay(wide(500)), fields(api.Field{Name: "a", Has: true, Default: deepJson(100)}),
		with(rich(), func(s *api.Schema) { s.Nodes[0].Fields[1] = s.Nodes[0].Fields[0]; s.Nodes[1] = s.Nodes[0] }),
	} {
		s = twin(s)
		was := twin(s)
		checkCopy(t, s)
		made := schema.Copy(s)
		spoil(reflect.ValueOf(&made).Elem())
		if !untouched(s, was) {
			t.Fatalf("the copy of %s was changed, and so was that", said(was))
		}
		// And the other way about.
		made = schema.Copy(s)
		spoil(reflect.ValueOf(&s).Elem())
		if !alike(made, was) {
			t.Fatalf("%s was changed, and so was its copy", said(was))
		}
	}
}

// spoil changes each part of a value, where it stands, its lists' spare room too.
func spoil(v reflect.Value) {
	switch v.Kind() {
	case reflect.Struct:
		for at := range v.NumField() {
			spoil(v.Field(at))
		}
	case reflect.Slice:
		for at := range v.Len() {
			spoil(v.Index(at))
		}
		for at := v.Len(); at < v.Cap(); at++ {
			spoil(v.Slice(0, v.Cap()).Index(at))
		}
	case reflect.Int, reflect.Int64:
		v.SetInt(v.Int() ^ 5)
	case reflect.String:
		v.SetString(v.String() + "spoiled")
	case reflect.Bool:
		v.SetBool(!v.Bool())
	}
}

// grower lays schemas that hang on no rule.
type grower struct {
	s    api.Schema
	some func(below int) int
}

// name is a name that no node has as yet, more often than not.
func (g *grower) name() string {
	if g.some(20) == 0 {
		return "n1"
	}
	return []string{"", "a.", "a.b."}[g.some(3)] + fmt.Sprint("n", len(g.s.Nodes))
}

// node lays a node, and what is below it.
func (g *grower) node(deep int) int {
	if met := g.met(); len(met) > 0 && g.some(4) == 0 {
		return met[g.some(len(met))]
	}
	kind := 1 + g.some(14)
	switch {
	case deep == 0:
		kind = []int{9, 9, 13, 11}[g.some(4)]
	case deep > 4 && kind >= 9:
		kind = 1 + g.some(8)
	}
	n := api.Node{Kind: kind}
	if named(kind) {
		n.Name = g.name()
		n.Aliases = []string{"x", "y.z", "n1"}[:g.some(4)]
	}
	if kind == 10 {
		n.Symbols = []string{"A", "B", "C"}[:1+g.some(3)]
		if n.Has = g.some(2) == 0; n.Has {
			n.Default = "A"
		}
	}
	if kind == 14 {
		n.Size = g.some(1001)
	}
	place := leaf(n)(&g.s)
	switch kind {
	case 9:
		for f := range g.some(5) {
			field := api.Field{Name: fmt.Sprint("f", f), Aliases: []string{"f0", "g"}[:g.some(3)], Type: g.node(deep + 1)}
			if field.Has = g.some(3) == 0; field.Has {
				field.Default = deepJson(g.some(3))
			}
			g.s.Nodes[place].Fields = append(g.s.Nodes[place].Fields, field)
		}
	case 11, 12:
		items := g.node(deep + 1)
		g.s.Nodes[place].Items = items
	case 13:
		for range 1 + g.some(3) {
			branch := g.node(deep + 1)
			g.s.Nodes[place].Branches = append(g.s.Nodes[place].Branches, branch)
		}
	}
	return place
}

// met are the nodes that were laid already and have names.
func (g *grower) met() []int {
	var out []int
	for at, n := range g.s.Nodes {
		if named(n.Kind) {
			out = append(out, at)
		}
	}
	return out
}

// P10.1 to P10.4: schemas that hang on no rule, and such with one thing or two changed.
func TestAnySchemas(t *testing.T) {
	some := random(10)
	rights, wrongs, changed := 0, 0, 0
	for range 2000 {
		g := grower{some: some}
		g.node(0)
		if check(t, g.s) {
			rights++
		} else {
			wrongs++
		}
		all := schemaChanges(g.s)
		for range 6 {
			other := all[some(len(all))]()
			checkSame(t, g.s, other)
			if check(t, other) {
				changed++
			}
			more := schemaChanges(other)
			check(t, more[some(len(more))]())
		}
	}
	if rights < 500 || wrongs < 500 || changed < 500 {
		t.Errorf("%d are right, %d wrong; of those that were changed %d are right", rights, wrongs, changed)
	}
}

// P10.1 to P10.4: each change of one thing in schemas that may be.
func TestOneChange(t *testing.T) {
	s := lay(record("n.r", list(kind(3)), dict(enum("e")), union(kind(1), at(0), at(4)), fixed("x"), record("s", list(at(0)), at(4), at(7)), at(8)))
	s.Nodes[0].Aliases = []string{"b", "c.d"}
	s.Nodes[0].Fields[2].Aliases = []string{"g", "h"}
	s.Nodes[0].Fields[0].Has, s.Nodes[0].Fields[0].Default = true, api.Json{Kind: 6, Keys: []string{"a", "b"}, Items: []api.Json{{Kind: 1}, {Kind: 5, Items: []api.Json{{Kind: 2, Int: 1}}}}}
	s.Nodes[4].Symbols, s.Nodes[4].Has, s.Nodes[4].Default = []string{"A", "B", "C"}, true, "B"
	checkRight(t, s, true)
	rights := 0
	for _, changed := range schemaChanges(s) {
		other := changed()
		if check(t, other) {
			rights++
		}
		checkSame(t, s, other)
	}
	if rights < 20 {
		t.Errorf("just %d are right", rights)
	}
}
