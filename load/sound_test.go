package load_test

import (
	"fmt"
	"math"
	"slices"
	"strings"
	"testing"

	"avocet/api"
	"avocet/load"
	"avocet/schema"
)

// loaded is the schema of a text.
func loaded(t *testing.T, text string) api.Schema {
	t.Helper()
	s, e := load.Text([]byte(text))
	if e != api.OK {
		t.Fatalf("Text(%s) is %d", text, e)
	}
	return s
}

// P14.2, P14.3: what is loaded is sound, and so is what is alike.
func TestSound(t *testing.T) {
	for _, text := range []string{`"int"`, `["null"]`, rich, fields(), arrays(32, `"int"`), with(`["null","r"]`, `null`), `{"type":"enum","name":"e","symbols":["A"]}`, `{"type":"fixed","name":"x","size":0}`} {
		s := loaded(t, text)
		checkSound(t, s, true)
		checkSound(t, schema.Copy(s), true)
	}
}

// P14.2: schemas without nodes, and ones that may not be.
func TestNotSound(t *testing.T) {
	checkSound(t, api.Schema{}, false)
	checkSound(t, api.Schema{Nodes: []api.Node{}}, false)
	checkSound(t, api.Schema{Root: 1}, false)
	checkSound(t, api.Schema{Nodes: []api.Node{{}}}, false)
	for name, spoil := range spoilers() {
		s := loaded(t, rich)
		spoil(&s)
		if schema.Right(s) {
			t.Fatalf("%s: %s may be", name, said(s))
		}
		checkSound(t, s, false)
	}
	// Ways that rich has no room for.
	for _, s := range []api.Schema{
		{Nodes: []api.Node{{Kind: api.Union, Branches: []int{1, 2}}, {Kind: api.Int}, {Kind: api.Int}}}, {Nodes: []api.Node{{Kind: api.Union, Branches: []int{1}}, {Kind: api.Union, Branches: []int{2}}, {Kind: api.Int}}}, {Nodes: []api.Node{{Kind: api.Union}}}, {Nodes: []api.Node{{Kind: api.Array}}},
		{Nodes: []api.Node{{Kind: api.Record, Name: "r", Fields: []api.Field{{Name: "f"}}}}}, {Nodes: []api.Node{{Kind: api.Int}, {Kind: api.Int}}}, {Nodes: []api.Node{{Kind: api.Int}}, Root: 1}, {Nodes: []api.Node{{Kind: api.Int}, {Kind: api.Array}}, Root: 1}, {Nodes: []api.Node{{Kind: api.Int}}, Root: -1},
		nested(33), wide(201), flat(41), chosen(41), choice(11), heavy(1001),
	} {
		if schema.Right(s) {
			t.Fatalf("%s may be", said(s))
		}
		checkSound(t, s, false)
	}
	for _, s := range []api.Schema{nested(32), wide(200), flat(40), chosen(40), choice(10), heavy(1000)} {
		checkSound(t, s, true)
	}
}

// flat is a record of so many fields.
func flat(many int) api.Schema {
	s := api.Schema{Nodes: []api.Node{{Kind: api.Record, Name: "r"}}}
	for n := range many {
		s.Nodes[0].Fields = append(s.Nodes[0].Fields, api.Field{Name: fmt.Sprint("f", n), Type: n + 1})
		s.Nodes = append(s.Nodes, api.Node{Kind: api.Int})
	}
	return s
}

// chosen is an enum of so many symbols.
func chosen(many int) api.Schema {
	n := api.Node{Kind: api.Enum, Name: "e"}
	for at := range many {
		n.Symbols = append(n.Symbols, fmt.Sprint("S", at))
	}
	return api.Schema{Nodes: []api.Node{n}}
}

// choice is a union of so many branches.
func choice(many int) api.Schema {
	s := api.Schema{Nodes: []api.Node{{Kind: api.Union}}}
	for at := range many {
		s.Nodes[0].Branches = append(s.Nodes[0].Branches, at+1)
		s.Nodes = append(s.Nodes, api.Node{Kind: api.Fixed, Name: fmt.Sprint("x", at)})
	}
	return s
}

// heavy is a record that weighs so much: 37 times one that weighs 27, and what is left by other fields.
func heavy(weight int) api.Schema {
	s := flat(26)
	s.Nodes[0].Name = "i"
	for at := range s.Nodes[0].Fields {
		s.Nodes[0].Fields[at].Type++
	}
	outer := api.Node{Kind: api.Record, Name: "o"}
	for n := range 37 {
		outer.Fields = append(outer.Fields, api.Field{Name: fmt.Sprint("f", n), Type: 1})
	}
	s.Nodes = slices.Insert(s.Nodes, 0, outer)
	for n := range weight - 1000 {
		s.Nodes[0].Fields = append(s.Nodes[0].Fields, api.Field{Name: fmt.Sprint("g", n), Type: len(s.Nodes)})
		s.Nodes = append(s.Nodes, api.Node{Kind: api.Int})
	}
	return s
}

// nested is an Int in so many arrays.
func nested(many int) api.Schema {
	var s api.Schema
	for at := range many {
		s.Nodes = append(s.Nodes, api.Node{Kind: api.Array, Items: at + 1})
	}
	s.Nodes = append(s.Nodes, api.Node{Kind: api.Int})
	return s
}

// wide is a schema of so many nodes: records, each with the next one and 39 others in it.
func wide(nodes int) api.Schema {
	var s api.Schema
	for len(s.Nodes) < nodes {
		n := api.Node{Kind: api.Record, Name: fmt.Sprint("r", len(s.Nodes))}
		at := len(s.Nodes)
		s.Nodes = append(s.Nodes, n)
		for len(s.Nodes) < nodes && len(n.Fields) < 39 {
			n.Fields = append(n.Fields, api.Field{Name: fmt.Sprint("f", len(s.Nodes)), Type: len(s.Nodes)})
			s.Nodes = append(s.Nodes, api.Node{Kind: api.Int})
		}
		if len(s.Nodes) < nodes {
			n.Fields = append(n.Fields, api.Field{Name: "last", Type: len(s.Nodes)})
		}
		s.Nodes[at] = n
	}
	return s
}

// spoilers are ways to make a schema like rich one that may not be: of each thing that chapter 10 asks.
func spoilers() map[string]func(s *api.Schema) {
	record := func(s *api.Schema) *api.Node { return &s.Nodes[0] }
	of := func(s *api.Schema, kind int) *api.Node {
		for at := range s.Nodes {
			if s.Nodes[at].Kind == kind {
				return &s.Nodes[at]
			}
		}
		return nil
	}
	out := map[string]func(s *api.Schema){
		"Root":            func(s *api.Schema) { s.Root = 1 },
		"Root below":      func(s *api.Schema) { s.Root = -1 },
		"no nodes":        func(s *api.Schema) { s.Nodes = s.Nodes[:0] },
		"a node too few":  func(s *api.Schema) { s.Nodes = s.Nodes[:len(s.Nodes)-1] },
		"a node too many": func(s *api.Schema) { s.Nodes = append(s.Nodes, api.Node{Kind: api.Int}) },
		"nodes exchanged": func(s *api.Schema) {
			s.Nodes[1], s.Nodes[2] = s.Nodes[2], s.Nodes[1]
			s.Nodes[0].Fields[0].Type, s.Nodes[0].Fields[1].Type = 2, 1
		},
		"a kid that is no node":    func(s *api.Schema) { record(s).Fields[0].Type = len(s.Nodes) },
		"a kid below":              func(s *api.Schema) { of(s, api.Array).Items = -1 },
		"a kid that was met":       func(s *api.Schema) { record(s).Fields[1].Type = record(s).Fields[0].Type },
		"itself":                   func(s *api.Schema) { record(s).Fields[7].Type = 0 },
		"a name that is none":      func(s *api.Schema) { record(s).Name = "1" },
		"no name":                  func(s *api.Schema) { record(s).Name = "" },
		"a kind's word":            func(s *api.Schema) { of(s, api.Fixed).Name = "fixed" },
		"an alias that is none":    func(s *api.Schema) { record(s).Aliases[1] = "a." },
		"a name twice":             func(s *api.Schema) { of(s, api.Fixed).Name = "n.r" },
		"a field's name":           func(s *api.Schema) { record(s).Fields[3].Name = "a.b" },
		"a field twice":            func(s *api.Schema) { record(s).Fields[3].Name = "a" },
		"a field's alias":          func(s *api.Schema) { record(s).Fields[1].Aliases[0] = "" },
		"a default without Has":    func(s *api.Schema) { record(s).Fields[2].Has = false },
		"a default that is none":   func(s *api.Schema) { record(s).Fields[2].Default = api.Json{} },
		"a default with more":      func(s *api.Schema) { record(s).Fields[2].Default.Text = "a" },
		"a default of bytes":       func(s *api.Schema) { record(s).Fields[5].Default.Text = "\xff\xff" },
		"a symbol that is none":    func(s *api.Schema) { of(s, api.Enum).Symbols[0] = "A-" },
		"a symbol twice":           func(s *api.Schema) { of(s, api.Enum).Symbols[0] = "B" },
		"no symbols":               func(s *api.Schema) { of(s, api.Enum).Symbols = nil },
		"a symbol that is missing": func(s *api.Schema) { of(s, api.Enum).Default = "C" },
		"a symbol without Has":     func(s *api.Schema) { of(s, api.Enum).Has = false },
		"a size below":             func(s *api.Schema) { of(s, api.Fixed).Size = -1 },
		"a great size":             func(s *api.Schema) { of(s, api.Fixed).Size = 1001 },
		"a union twice":            func(s *api.Schema) { u := &s.Nodes[record(s).Fields[6].Type]; u.Branches[2] = u.Branches[1] },
		"a union of none":          func(s *api.Schema) { of(s, api.Union).Branches = nil },
		"another kind's Items":     func(s *api.Schema) { record(s).Items = 1 },
		"another kind's Size":      func(s *api.Schema) { of(s, api.Union).Size = 1 },
		"another kind's Branches":  func(s *api.Schema) { of(s, api.Int).Branches = []int{1} },
		"another kind's Name":      func(s *api.Schema) { of(s, api.Map).Name = "a" },
		"many aliases":             func(s *api.Schema) { record(s).Aliases = strings.Split(strings.Repeat("a ", 41), " ")[:41] },
	}
	for _, kind := range []int{math.MinInt, -1, 0, 15, 1<<32 + 3, math.MaxInt} {
		out[fmt.Sprint("the kind ", kind)] = func(s *api.Schema) { of(s, api.Int).Kind = kind }
	}
	return out
}

// P14.2: schemas that may be, with a default that says no value at any of their fields, or with several.
func TestSoundDefaults(t *testing.T) {
	null, word, most := api.Json{Kind: api.JNull}, api.Json{Kind: api.JText, Text: "no"}, api.Json{Kind: api.JInt, Int: math.MaxInt64}
	for _, odd := range []api.Json{null, word, most, {Kind: api.JList}, {Kind: api.JObj}} {
		s := loaded(t, rich)
		for at, n := range s.Nodes {
			for place := range n.Fields {
				one := schema.Copy(s)
				f := &one.Nodes[at].Fields[place]
				f.Has, f.Default = true, odd
				if !schema.Right(one) {
					t.Fatalf("%s may not be", said(one))
				}
				checkSound(t, one, sound(one))
			}
		}
		for at := range s.Nodes {
			for place := range s.Nodes[at].Fields {
				s.Nodes[at].Fields[place].Has, s.Nodes[at].Fields[place].Default = true, odd
			}
		}
		checkSound(t, s, false)
	}
	// Without an end, too many parts, and too deep.
	for _, one := range []struct {
		of   string
		says string
	}{
		{`["r","null"]`, `{}`}, {arrays(2, `"null"`), `[[],[` + strings.Repeat("null,", 300) + `null]]`}, {arrays(21, `"null"`), lists(21)}, {`["null","int"]`, `1`},
	} {
		j := loaded(t, with(`"int"`, ``, one.of, ``))
		checkSound(t, j, true)
		j.Nodes[0].Fields[1].Has, j.Nodes[0].Fields[1].Default = true, parsed(t, one.says)
		checkSound(t, j, false)
	}
}

// P14.2: schemas that may be, of which no text is: names without a space below ones with it, nodes that are deeper than a text may be, and more than it has bytes for.
func TestSoundWithoutText(t *testing.T) {
	checkSound(t, api.Schema{Nodes: []api.Node{
		{Kind: api.Record, Name: "r", Fields: []api.Field{{Name: "f", Type: 1}}},
		{Kind: api.Record, Name: "n.s", Aliases: []string{"alone"}, Fields: []api.Field{{Name: "f", Type: 2}}},
		{Kind: api.Array, Items: 0},
	}}, true)
	// Each record in another one asks a text for two more than the record itself.
	for deep := 8; deep <= 33; deep++ {
		var s api.Schema
		for at := range deep {
			s.Nodes = append(s.Nodes, api.Node{Kind: api.Record, Name: fmt.Sprint("r", at), Fields: []api.Field{{Name: "f", Type: at + 1}}})
		}
		s.Nodes = append(s.Nodes, api.Node{Kind: api.Int})
		checkSound(t, s, deep <= 32)
		s.Nodes[deep-1].Fields[0].Has, s.Nodes[deep-1].Fields[0].Default = true, api.Json{Kind: api.JText, Text: "no"}
		checkSound(t, s, false)
	}
	for _, size := range []int{19900, 19999, 20000, 20001} {
		long := api.Json{Kind: api.JText, Text: strings.Repeat("x", size)}
		s := api.Schema{Nodes: []api.Node{{Kind: api.Record, Name: "r", Fields: []api.Field{{Name: "f", Type: 1, Has: true, Default: long}, {Name: "g", Type: 2, Has: true, Default: long}}}, {Kind: api.String}, {Kind: api.Bytes}}}
		checkSound(t, s, size <= 20000)
	}
}
