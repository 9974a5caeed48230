package canon_test

import (
	"fmt"
	"math"
	"slices"
	"strings"
	"testing"

	"avocet/api"
	"avocet/canon"
	"avocet/schema"
)

// The chapter's own example.
func TestExample(t *testing.T) {
	s := api.Schema{Nodes: []api.Node{
		{Kind: api.Record, Name: "n.r", Fields: []api.Field{{Name: "f", Type: 1}}},
		{Kind: api.Union, Branches: []int{2, 0}},
		{Kind: api.Null},
	}}
	checkRow(t, s, `{"name":"n.r","type":"record","fields":[{"name":"f","type":["null","n.r"]}]}`)
}

// P15.1: each kind from Null to String, alone and within others.
func TestWords(t *testing.T) {
	if many := len(kindWords()); many != 8 {
		t.Fatalf("%d kinds", many)
	}
	for of, word := range kindWords() {
		quoted := `"` + word + `"`
		one := kind(of)
		checkShape(t, one, quoted)
		checkShape(t, list(one), `{"type":"array","items":`+quoted+`}`)
		checkShape(t, dict(one), `{"type":"map","values":`+quoted+`}`)
		checkShape(t, union(one), `[`+quoted+`]`)
		checkShape(t, record("r", one), `{"name":"r","type":"record","fields":[{"name":"f0","type":`+quoted+`}]}`)
		checkShape(t, record("r", one, one, one), `{"name":"r","type":"record","fields":[{"name":"f0","type":`+quoted+`},{"name":"f1","type":`+quoted+`},{"name":"f2","type":`+quoted+`}]}`)
		checkShape(t, list(dict(union(one))), `{"type":"array","items":{"type":"map","values":[`+quoted+`]}}`)
	}
	checkShape(t, union(kind(1), kind(2), kind(3), kind(4), kind(5), kind(6), kind(7), kind(8)), `["null","boolean","int","long","float","double","bytes","string"]`)
	checkShape(t, union(kind(8), kind(7), kind(6), kind(5), kind(4), kind(3), kind(2), kind(1)), `["string","bytes","double","float","long","int","boolean","null"]`)
}

// P15.1: records without fields, with one, with several; their fields' names as they are, in their order.
func TestRecords(t *testing.T) {
	checkShape(t, record("r"), `{"name":"r","type":"record","fields":[]}`)
	checkShape(t, record("a.b.r", kind(3)), `{"name":"a.b.r","type":"record","fields":[{"name":"f0","type":"int"}]}`)
	checkShape(t, record("r", kind(3), record("s"), kind(1)), `{"name":"r","type":"record","fields":[{"name":"f0","type":"int"},{"name":"f1","type":{"name":"s","type":"record","fields":[]}},{"name":"f2","type":"null"}]}`)
	checkShape(t, record("r", record("s", kind(3), kind(4)), kind(1)), `{"name":"r","type":"record","fields":[{"name":"f0","type":{"name":"s","type":"record","fields":[{"name":"f0","type":"int"},{"name":"f1","type":"long"}]}},{"name":"f1","type":"null"}]}`)
	s := lay(record("r", kind(3), kind(3), kind(3), kind(3), kind(3)))
	for at, name := range []string{"z", "name", "_", "type", "A9"} {
		s.Nodes[0].Fields[at].Name = name
	}
	checkRow(t, s, `{"name":"r","type":"record","fields":[{"name":"z","type":"int"},{"name":"name","type":"int"},{"name":"_","type":"int"},{"name":"type","type":"int"},{"name":"A9","type":"int"}]}`)
	for many := range 41 {
		root := record("r", slices.Repeat([]shape{kind(api.Boolean)}, many)...)
		var parts []string
		for n := range many {
			parts = append(parts, fmt.Sprintf(`{"name":"f%d","type":"boolean"}`, n))
		}
		checkShape(t, root, `{"name":"r","type":"record","fields":[`+strings.Join(parts, ",")+`]}`)
	}
}

// P15.1: enums of one symbol and of several, in their order.
func TestEnums(t *testing.T) {
	checkShape(t, enum("e", "A"), `{"name":"e","type":"enum","symbols":["A"]}`)
	checkShape(t, enum("n.e", "B", "A"), `{"name":"n.e","type":"enum","symbols":["B","A"]}`)
	checkShape(t, enum("e", "null", "_", "e", "a9", "symbols"), `{"name":"e","type":"enum","symbols":["null","_","e","a9","symbols"]}`)
	checkShape(t, enum("e", long(100), long(99)), `{"name":"e","type":"enum","symbols":["`+long(100)+`","`+long(99)+`"]}`)
	for many := 1; many <= 40; many++ {
		var symbols []string
		for n := range many {
			symbols = append(symbols, fmt.Sprint("S", n))
		}
		checkShape(t, enum("e", symbols...), `{"name":"e","type":"enum","symbols":["`+strings.Join(symbols, `","`)+`"]}`)
	}
}

// P15.1: each size that a fixed may have: of one digit to four, the least and the greatest.
func TestSizes(t *testing.T) {
	for size, digits := range map[int]string{0: "0", 1: "1", 9: "9", 10: "10", 99: "99", 100: "100", 101: "101", 999: "999", 1000: "1000"} {
		checkShape(t, fixed("x", size), `{"name":"x","type":"fixed","size":`+digits+`}`)
		checkShape(t, union(kind(1), fixed("n.x", size)), `["null",{"name":"n.x","type":"fixed","size":`+digits+`}]`)
	}
	for size := range 1001 {
		checkShape(t, fixed("x", size), fmt.Sprintf(`{"name":"x","type":"fixed","size":%d}`, size))
	}
	checkRefused(t, lay(fixed("x", -1)), 2)
	checkRefused(t, lay(fixed("x", 1001)), 2)
}

// around are the ways to lay something into what has no name, with the form around that of it.
func around() map[string]func(of shape) shape {
	return map[string]func(of shape) shape{
		`{"type":"array","items":*}`: list,
		`{"type":"map","values":*}`:  dict,
		`[*]`:                        func(of shape) shape { return union(of) },
		`["null",*]`:                 func(of shape) shape { return union(kind(api.Null), of) },
		`[*,"long"]`:                 func(of shape) shape { return union(of, kind(api.Long)) },
		`["bytes",*,"string"]`:       func(of shape) shape { return union(kind(api.Bytes), of, kind(api.String)) },
	}
}

// inside lays a form into one around it.
func inside(form, of string) string { return strings.Replace(form, "*", of, 1) }

// P15.1: arrays, maps and unions in each other, three deep, around what has no name and what has one.
func TestWithinEachOther(t *testing.T) {
	ends := map[string]shape{
		`"int"`: kind(api.Int), `{"name":"e","type":"enum","symbols":["A"]}`: enum("e", "A"), `{"name":"n.x","type":"fixed","size":12}`: fixed("n.x", 12), `{"name":"r","type":"record","fields":[{"name":"f0","type":"int"}]}`: record("r", kind(api.Int)),
	}
	laid := 0
	for end, one := range ends {
		for a, first := range around() {
			checkShape(t, first(one), inside(a, end))
			for b, second := range around() {
				for c, third := range around() {
					s := lay(first(second(third(one))))
					if !schema.Right(s) {
						// A union in a union.
						checkRefused(t, s, 2)
						continue
					}
					laid++
					checkRow(t, s, inside(a, inside(b, inside(c, end))))
					checkRow(t, lay(record("q", kind(2), first(second(third(one))), kind(1))), `{"name":"q","type":"record","fields":[{"name":"f0","type":"boolean"},{"name":"f1","type":`+inside(a, inside(b, inside(c, end)))+`},{"name":"f2","type":"null"}]}`)
				}
			}
		}
	}
	if laid < 200 {
		t.Errorf("just %d", laid)
	}
	for deep := range 33 {
		checkShape(t, within(deep, kind(api.Int)), strings.Repeat(`{"type":"array","items":`, deep)+`"int"`+strings.Repeat(`}`, deep))
	}
}

// P15.1: what has a name a second time, and a third: in itself.
func TestWithinItself(t *testing.T) {
	for _, name := range []string{"r", "n.r", "a.b.r"} {
		self := again(name)
		head, tail, quoted := `{"name":"`+name+`","type":"record","fields":[`, `]}`, `"`+name+`"`
		field := func(n int, of string) string { return fmt.Sprintf(`{"name":"f%d","type":%s}`, n, of) }
		for form, lay := range around() {
			checkShape(t, record(name, lay(self)), head+field(0, inside(form, quoted))+tail)
			checkShape(t, lay(record(name, lay(self))), inside(form, head+field(0, inside(form, quoted))+tail))
			checkShape(t, record(name, lay(self), kind(3), lay(self)), head+field(0, inside(form, quoted))+","+field(1, `"int"`)+","+field(2, inside(form, quoted))+tail)
		}
		checkShape(t, record(name, union(kind(1), self), list(self), dict(list(self))), head+field(0, `["null",`+quoted+`]`)+","+field(1, `{"type":"array","items":`+quoted+`}`)+","+field(2, `{"type":"map","values":{"type":"array","items":`+quoted+`}}`)+tail)
		// Within another record that is within it, and that one in itself.
		checkShape(t, record(name, record("m.s", list(self), list(again("m.s")))), head+field(0, `{"name":"m.s","type":"record","fields":[`+field(0, `{"type":"array","items":`+quoted+`}`)+","+field(1, `{"type":"array","items":"m.s"}`)+`]}`)+tail)
	}
}

// oneEach is one of each kind that has a name, with its form.
func oneEach(name string) map[string]shape {
	return map[string]shape{
		`{"name":"` + name + `","type":"record","fields":[]}`:                              record(name),
		`{"name":"` + name + `","type":"record","fields":[{"name":"f0","type":"string"}]}`: record(name, kind(api.String)),
		`{"name":"` + name + `","type":"enum","symbols":["A","B"]}`:                        enum(name, "A", "B"),
		`{"name":"` + name + `","type":"fixed","size":16}`:                                 fixed(name, 16),
	}
}

// P15.1: what has a name a second time, and a third: beside itself, in a field behind, within a union, an array, a map.
func TestAgain(t *testing.T) {
	for _, name := range []string{"x", "n.x", "n.m.x"} {
		for form, one := range oneEach(name) {
			two, quoted := again(name), `"`+name+`"`
			checkShape(t, record("r", one, two), `{"name":"r","type":"record","fields":[{"name":"f0","type":`+form+`},{"name":"f1","type":`+quoted+`}]}`)
			checkShape(t, record("n.r", one, two, two), `{"name":"n.r","type":"record","fields":[{"name":"f0","type":`+form+`},{"name":"f1","type":`+quoted+`},{"name":"f2","type":`+quoted+`}]}`)
			checkShape(t, record("r", kind(3), one, kind(3), two, kind(3), two), `{"name":"r","type":"record","fields":[{"name":"f0","type":"int"},{"name":"f1","type":`+form+`},{"name":"f2","type":"int"},{"name":"f3","type":`+quoted+`},{"name":"f4","type":"int"},{"name":"f5","type":`+quoted+`}]}`)
			// Two records deep first, and then beside them, and the other way about.
			checkShape(t, record("r", record("s", one), two), `{"name":"r","type":"record","fields":[{"name":"f0","type":{"name":"s","type":"record","fields":[{"name":"f0","type":`+form+`}]}},{"name":"f1","type":`+quoted+`}]}`)
			checkShape(t, record("r", one, record("s", two)), `{"name":"r","type":"record","fields":[{"name":"f0","type":`+form+`},{"name":"f1","type":{"name":"s","type":"record","fields":[{"name":"f0","type":`+quoted+`}]}}]}`)
			checkShape(t, union(one, list(two), dict(two)), `[`+form+`,{"type":"array","items":`+quoted+`},{"type":"map","values":`+quoted+`}]`)
			checkShape(t, union(list(one), two), `[{"type":"array","items":`+form+`},`+quoted+`]`)
			for a, first := range around() {
				for b, second := range around() {
					checkShape(t, record("r", first(one), second(two), first(two)), `{"name":"r","type":"record","fields":[{"name":"f0","type":`+inside(a, form)+`},{"name":"f1","type":`+inside(b, quoted)+`},{"name":"f2","type":`+inside(a, quoted)+`}]}`)
				}
			}
		}
	}
}

// P15.1: several that have names, each a second time, in another order.
func TestSeveralAgain(t *testing.T) {
	checkShape(t, record("n.r", enum("n.e", "A"), fixed("x", 3), record("s", union(again("n.e"), kind(1), again("n.r"))), again("s"), again("x"), again("n.e")),
		`{"name":"n.r","type":"record","fields":[{"name":"f0","type":{"name":"n.e","type":"enum","symbols":["A"]}},{"name":"f1","type":{"name":"x","type":"fixed","size":3}},{"name":"f2","type":{"name":"s","type":"record","fields":[{"name":"f0","type":["n.e","null","n.r"]}]}},{"name":"f3","type":"s"},{"name":"f4","type":"x"},{"name":"f5","type":"n.e"}]}`)
	// Names that differ in their space, in their case or by what is ahead alone.
	checkShape(t, union(fixed("x", 0), fixed("n.x", 1), fixed("m.x", 2), fixed("X", 3), fixed("n.m.x", 4), record("xx", again("x"), again("m.x"), again("n.m.x"), again("n.x"), again("X"))),
		`[{"name":"x","type":"fixed","size":0},{"name":"n.x","type":"fixed","size":1},{"name":"m.x","type":"fixed","size":2},{"name":"X","type":"fixed","size":3},{"name":"n.m.x","type":"fixed","size":4},{"name":"xx","type":"record","fields":[{"name":"f0","type":"x"},{"name":"f1","type":"m.x"},{"name":"f2","type":"n.m.x"},{"name":"f3","type":"n.x"},{"name":"f4","type":"X"}]}]`)
}

// P15.1: names that are as long as they may be, with a space and without one, told twice; and one byte longer.
func TestGreatestNames(t *testing.T) {
	for _, size := range []int{1, 2, 99, 100} {
		names := []string{long(size), strings.Repeat("_", size), "Z" + strings.Repeat("9", size-1)}
		if size > 2 {
			names = append(names, "n."+long(size-2), long(size-2)+".n", "a"+strings.Repeat(".a", (size-1)/2))
		}
		for _, name := range names {
			for form, one := range oneEach(name) {
				checkShape(t, union(one, list(again(name))), `[`+form+`,{"type":"array","items":"`+name+`"}]`)
			}
		}
	}
	s := lay(record("r", kind(3)))
	s.Nodes[0].Fields[0].Name = long(100)
	checkRow(t, s, `{"name":"r","type":"record","fields":[{"name":"`+long(100)+`","type":"int"}]}`)
	s.Nodes[0].Fields[0].Name = long(101)
	checkRefused(t, s, 2)
	for _, name := range []string{long(101), "n." + long(99), long(50) + "." + long(50)} {
		for _, one := range oneEach(name) {
			checkRefused(t, lay(one), 2)
		}
	}
}

// rich is a schema that may be, of each kind, in which each part that may be there is.
func rich() api.Schema {
	s := lay(record("n.r", kind(3), list(kind(8)), enum("n.e", "A", "B", "C"), union(kind(1), again("n.r"), again("n.e"), fixed("x", 4)), dict(record("n.s", list(again("n.r")), kind(2), again("x"))), kind(4), kind(5), kind(6), kind(7), again("n.s")))
	s.Nodes[0].Aliases = []string{"b", "c.d"}
	for at, j := range trees() {
		f := &s.Nodes[0].Fields[at]
		f.Aliases, f.Has, f.Default = []string{"g", "f1"}[:at%3], true, j
	}
	s.Nodes[schema.Find(s, "n.s")].Aliases = []string{"n.t"}
	s.Nodes[schema.Find(s, "n.s")].Fields[1].Aliases = []string{"h", "i", "j"}
	s.Nodes[schema.Find(s, "x")].Aliases = []string{"y", "n.y", "int"}
	e := &s.Nodes[schema.Find(s, "n.e")]
	e.Aliases, e.Has, e.Default = []string{"n.e"}, true, "B"
	return s
}

// trees are trees of each kind.
func trees() []api.Json {
	return []api.Json{
		{Kind: api.JInt, Int: -7},
		{Kind: api.JList, Items: []api.Json{{Kind: api.JText, Text: "\" \\\n"}, {Kind: api.JList}}},
		{Kind: api.JText, Text: "ä {\"name\":\"no\"}"},
		{Kind: api.JNull},
		{Kind: api.JObj, Keys: []string{"a", ""}, Items: []api.Json{{Kind: api.JNull}, {Kind: api.JObj}}},
		{Kind: api.JBool, Int: 1},
		{Kind: api.JBool},
	}
}

const richForm = `{"name":"n.r","type":"record","fields":[{"name":"f0","type":"int"},{"name":"f1","type":{"type":"array","items":"string"}},{"name":"f2","type":{"name":"n.e","type":"enum","symbols":["A","B","C"]}},{"name":"f3","type":["null","n.r","n.e",{"name":"x","type":"fixed","size":4}]},{"name":"f4","type":{"type":"map","values":{"name":"n.s","type":"record","fields":[{"name":"f0","type":{"type":"array","items":"n.r"}},{"name":"f1","type":"boolean"},{"name":"f2","type":"x"}]}}},{"name":"f5","type":"long"},{"name":"f6","type":"float"},{"name":"f7","type":"double"},{"name":"f8","type":"bytes"},{"name":"f9","type":"n.s"}]}`

// P15.1: what the form leaves out: aliases, defaults, whether there is one.
func TestLeftOut(t *testing.T) {
	checkRow(t, rich(), richForm)
	checkRow(t, stripped(rich()), richForm)
	names := []string{"other", "a.b.c", "x"}
	for form, one := range oneEach("n.x") {
		s := lay(one)
		for many := range len(names) + 1 {
			s.Nodes[0].Aliases = names[:many]
			checkRow(t, s, form)
		}
		s.Nodes[0].Aliases = slices.Repeat(names, 13)
		checkRow(t, s, form)
	}
	s := lay(enum("e", "A", "B"))
	for _, symbol := range s.Nodes[0].Symbols {
		s.Nodes[0].Has, s.Nodes[0].Default = true, symbol
		checkRow(t, s, `{"name":"e","type":"enum","symbols":["A","B"]}`)
	}
	s = lay(record("r", kind(3), kind(3)))
	const form = `{"name":"r","type":"record","fields":[{"name":"f0","type":"int"},{"name":"f1","type":"int"}]}`
	for at := range s.Nodes[0].Fields {
		f := &s.Nodes[0].Fields[at]
		for _, j := range append(trees(), api.Json{Kind: api.JInt}, api.Json{Kind: api.JText, Text: strings.Repeat("d", 50000)}) {
			// Whether a default says a value the form does not ask.
			f.Has, f.Default = true, j
			checkRow(t, s, form)
		}
		f.Has, f.Default = false, api.Json{}
		f.Aliases = []string{"f0", "f1", "g"}
		checkRow(t, s, form)
	}
}

// filled is a record with a last field behind as many as a form of so many bytes asks for.
func filled(t *testing.T, size int, last shape) api.Schema {
	t.Helper()
	var of []shape
	for n := range 6 {
		var symbols []string
		for at := range 40 {
			symbols = append(symbols, fmt.Sprint("S", at))
		}
		of = append(of, enum(fmt.Sprint("n.e", n), symbols...))
	}
	s := lay(record("n.r", append(of, last)...))
	left := size - len(formed(s, 0, map[string]bool{}))
	for at := 1; at <= 6; at++ {
		for place, symbol := range s.Nodes[at].Symbols {
			more := min(left, 100-len(symbol))
			s.Nodes[at].Symbols[place] += long(more)
			left -= more
		}
	}
	if left != 0 || len(formed(s, 0, map[string]bool{})) != size || !schema.Right(s) {
		t.Fatalf("%s is not filled up: %d are left", said(s), left)
	}
	return s
}

// P15.1: forms of just as many bytes as there may be, and more, whatever is the last thing that makes them so.
func TestJustMaxJson(t *testing.T) {
	field := func(name string) shape {
		return func(s *api.Schema) int {
			place := record("q", kind(3))(s)
			s.Nodes[place].Fields[0].Name = name
			return place
		}
	}
	for what, pair := range map[string][2]shape{
		"a record's name":  {record("x", kind(3)), record("xx", kind(3))},
		"an enum's name":   {enum("x", "A"), enum("xx", "A")},
		"a fixed's name":   {fixed("n.x", 4), fixed("n.xx", 4)},
		"a name's space":   {fixed("n.x", 4), fixed("nn.x", 4)},
		"a field's name":   {field("f"), field("ff")},
		"a symbol":         {enum("x", "A", "B"), enum("x", "A", "BB")},
		"another symbol":   {enum("x", "A"), enum("x", "A", "B")},
		"two digits":       {fixed("x", 9), fixed("x", 10)},
		"three digits":     {fixed("x", 99), fixed("x", 100)},
		"four digits":      {fixed("x", 999), fixed("x", 1000)},
		"a word":           {kind(api.Int), kind(api.Long)},
		"two brackets":     {kind(api.Int), union(kind(api.Int))},
		"a map":            {union(kind(api.Int)), dict(kind(api.Int))},
		"an array's word":  {dict(kind(api.Int)), list(kind(api.Int))},
		"a branch":         {union(kind(api.Int)), union(kind(api.Int), kind(api.Null))},
		"a field":          {record("x"), record("x", kind(api.Null))},
		"what was told":    {list(again("n.e5")), list(union(again("n.e5")))},
		"many brackets":    {within(3, union(kind(1))), within(25, union(kind(1)))},
		"many more":        {kind(api.Null), record("x", list(again("x")), dict(enum("y", "A")), fixed("z", 100))},
		"longer by itself": {record("q", list(again("n.r"))), record("q", list(again("n.r")), list(again("n.r")))},
	} {
		for _, size := range []int{19998, 19999, 20000} {
			for _, last := range pair {
				if form, e := checkForm(t, filled(t, size, last)); e != api.OK || len(form) != size {
					t.Fatalf("%s: of %d bytes it is %d, %d", what, size, len(form), e)
				}
			}
			// With the second one in the first one's place it is longer.
			s := exchanged(filled(t, size, pair[0]), pair[1])
			now := len(formed(s, 0, map[string]bool{}))
			if now <= size {
				t.Fatalf("%s: of %d bytes it is %d", what, size, now)
			}
			if _, e := checkForm(t, s); e != map[bool]api.Errno{true: 3}[now > 20000] {
				t.Fatalf("%s: of %d bytes it is %d", what, now, e)
			}
		}
		for _, size := range []int{20001, 20002, 20010} {
			checkRefused(t, filled(t, size, pair[0]), 3)
			checkRefused(t, filled(t, size, pair[1]), 3)
		}
	}
}

// exchanged is a filled schema with another last field, of which it has all nodes behind the first ones.
func exchanged(s api.Schema, last shape) api.Schema {
	return with(s, func(s *api.Schema) {
		s.Nodes = s.Nodes[:7]
		s.Nodes[0].Fields[6].Type = last(s)
	})
}

// P15.1: whatever part of the form it is in which the last byte stands that there may be, and the first that there may not.
func TestMaxJsonAnywhere(t *testing.T) {
	last := record("n.last", enum("n.y", "AA", "BB"), fixed("n.z", 1000), list(dict(union(kind(1), again("n.last"), again("n.z")))), kind(8))
	tail := len(formed(lay(last), 0, map[string]bool{}))
	met := map[byte]bool{}
	for size := 19950; size < 20010+tail; size++ {
		s := filled(t, size, last)
		want := map[bool]api.Errno{true: 3}[size > 20000]
		if _, e := checkForm(t, s); e != want {
			t.Fatalf("of %d bytes it is %d", size, e)
		}
		if size > 20000 {
			met[formed(s, 0, map[string]bool{})[20000]] = true
		}
	}
	for _, c := range []byte(`{}[]",:.ABz10`) {
		if !met[c] {
			t.Errorf("%q is never one byte too many", c)
		}
	}
}

// P15.1: forms that are far greater.
func TestFarTooMuch(t *testing.T) {
	var symbols []string
	for n := range 40 {
		symbols = append(symbols, (fmt.Sprint("S", n) + long(100))[:100])
	}
	for _, many := range []int{5, 6, 20, 39} {
		var of []shape
		for n := range many {
			of = append(of, enum(fmt.Sprint("e", n), symbols...))
		}
		checkRefused(t, lay(record("r", of...)), 3)
	}
	// 199 nodes, each with all that it may have.
	var outer []shape
	for n := range 5 {
		var of []shape
		for at := range 38 {
			of = append(of, enum(fmt.Sprint("e", n, "_", at), symbols...))
		}
		outer = append(outer, list(record(fmt.Sprint("r", n), of...)))
	}
	s := lay(record("r", outer[:4]...))
	if !schema.Right(s) {
		t.Fatalf("%s may not be", said(s))
	}
	checkRefused(t, s, 3)
	// What may not be is told ahead of what is too great.
	checkRefused(t, with(s, func(s *api.Schema) { s.Nodes[len(s.Nodes)-1].Name = "-" }), 2)
	checkRefused(t, with(s, func(s *api.Schema) { s.Root = 1 }), 2)
}

// P15.1: schemas that may not be, of each way, and ones without nodes.
func TestMayNotBe(t *testing.T) {
	for _, root := range []int{0, 1, -1, math.MinInt, math.MaxInt} {
		checkRefused(t, api.Schema{Root: root}, 2)
		checkRefused(t, api.Schema{Nodes: []api.Node{}, Root: root}, 2)
	}
	for name, change := range spoilers() {
		s := with(rich(), change)
		if schema.Right(s) {
			t.Fatalf("%s: %s may be", name, said(s))
		}
		checkRefused(t, s, 2)
	}
	null := kind(api.Null)
	var branches []shape
	for n := range 11 {
		branches = append(branches, fixed(fmt.Sprint("x", n), n))
	}
	for _, root := range []shape{
		union(), union(null, null), union(list(null), list(kind(api.Int))), union(union(null)), union(null, union(kind(api.Int))), union(fixed("x", 1), again("x")), list(kind(0)), dict(kind(15)), kind(0), kind(-1), kind(15),
		record("r", again("r")), record("r", null, record("s", again("r"))), record("r", enum("e")), enum("e"), enum("e", "A", "A"), enum("e", "A", ""), enum("enum", "A"), fixed("", 1), record("n.", null), record("r", record("r")), union(fixed("x", 1), enum("x", "A")),
		within(33, null), union(branches...), record("r", slices.Repeat([]shape{null}, 41)...), list(again("none")),
	} {
		checkRefused(t, lay(root), 2)
	}
	checkShape(t, union(branches[:2]...), `[{"name":"x0","type":"fixed","size":0},{"name":"x1","type":"fixed","size":1}]`)
	// Just as many nodes as there may be, and one more; just as heavy, and heavier.
	for _, many := range []int{199, 200, 201} {
		s := wide(many)
		if _, e := checkForm(t, s); len(s.Nodes) != many || e != map[int]api.Errno{201: 2}[many] {
			t.Errorf("of %d nodes it is %d", len(s.Nodes), e)
		}
	}
	for _, more := range []int{0, 1} {
		inner := record("i", slices.Repeat([]shape{null}, 26)...)
		of := append([]shape{inner}, slices.Repeat([]shape{again("i")}, 36)...)
		of = append(of, slices.Repeat([]shape{null}, more)...)
		if _, e := checkForm(t, lay(record("o", of...))); e != map[int]api.Errno{1: 2}[more] {
			t.Errorf("of 1000 and %d parts it is %d", more, e)
		}
	}
}

// wide is a schema of so many nodes, none deep.
func wide(nodes int) api.Schema {
	var of []shape
	for left := nodes - 1; left > 0; {
		size := min(left, 8)
		of = append(of, within(size-1, kind(api.Int)))
		left -= size
	}
	return lay(record("r", of...))
}

// spoilers are ways to make rich a schema that may not be: of each thing that chapter 10 asks.
func spoilers() map[string]func(s *api.Schema) {
	of := func(s *api.Schema, kind int) *api.Node {
		return &s.Nodes[slices.IndexFunc(s.Nodes, func(n api.Node) bool { return n.Kind == kind })]
	}
	out := map[string]func(s *api.Schema){
		"Root":            func(s *api.Schema) { s.Root = 1 },
		"Root below":      func(s *api.Schema) { s.Root = -1 },
		"Root beyond":     func(s *api.Schema) { s.Root = math.MaxInt },
		"no nodes":        func(s *api.Schema) { s.Nodes = s.Nodes[:0] },
		"a node too few":  func(s *api.Schema) { s.Nodes = s.Nodes[:len(s.Nodes)-1] },
		"a node too many": func(s *api.Schema) { s.Nodes = append(s.Nodes, api.Node{Kind: api.Int}) },
		"nodes exchanged": func(s *api.Schema) {
			s.Nodes[1], s.Nodes[4] = s.Nodes[4], s.Nodes[1]
			s.Nodes[0].Fields[0].Type, s.Nodes[0].Fields[2].Type = 4, 1
		},
		"a kid that is no node":    func(s *api.Schema) { s.Nodes[0].Fields[0].Type = len(s.Nodes) },
		"a kid below":              func(s *api.Schema) { of(s, api.Array).Items = -1 },
		"a kid far below":          func(s *api.Schema) { of(s, api.Map).Items = math.MinInt },
		"a kid far beyond":         func(s *api.Schema) { of(s, api.Union).Branches[1] = math.MaxInt },
		"a kid that was met":       func(s *api.Schema) { s.Nodes[0].Fields[5].Type = s.Nodes[0].Fields[0].Type },
		"itself":                   func(s *api.Schema) { s.Nodes[0].Fields[9].Type = 0 },
		"a name that is none":      func(s *api.Schema) { s.Nodes[0].Name = "1" },
		"a name with a quote":      func(s *api.Schema) { s.Nodes[0].Name = `n"r` },
		"no name":                  func(s *api.Schema) { s.Nodes[0].Name = "" },
		"a kind's word":            func(s *api.Schema) { of(s, api.Fixed).Name = "fixed" },
		"an alias that is none":    func(s *api.Schema) { s.Nodes[0].Aliases[1] = "a." },
		"a name twice":             func(s *api.Schema) { of(s, api.Fixed).Name = "n.r" },
		"a field's name":           func(s *api.Schema) { s.Nodes[0].Fields[3].Name = "a.b" },
		"a field without a name":   func(s *api.Schema) { s.Nodes[0].Fields[3].Name = "" },
		"a field twice":            func(s *api.Schema) { s.Nodes[0].Fields[3].Name = "f0" },
		"a field's alias":          func(s *api.Schema) { s.Nodes[0].Fields[1].Aliases = []string{""} },
		"a default without Has":    func(s *api.Schema) { s.Nodes[0].Fields[2].Has = false },
		"a default that is none":   func(s *api.Schema) { s.Nodes[0].Fields[2].Default = api.Json{} },
		"a default with more":      func(s *api.Schema) { s.Nodes[0].Fields[2].Default.Int = 1 },
		"a default of bytes":       func(s *api.Schema) { s.Nodes[0].Fields[2].Default.Text = "\xff\xff" },
		"a symbol that is none":    func(s *api.Schema) { of(s, api.Enum).Symbols[0] = "A-" },
		"a symbol twice":           func(s *api.Schema) { of(s, api.Enum).Symbols[0] = "B" },
		"no symbols":               func(s *api.Schema) { of(s, api.Enum).Symbols = nil },
		"a symbol that is missing": func(s *api.Schema) { of(s, api.Enum).Default = "D" },
		"a symbol without Has":     func(s *api.Schema) { of(s, api.Enum).Has = false },
		"a size below":             func(s *api.Schema) { of(s, api.Fixed).Size = -1 },
		"a great size":             func(s *api.Schema) { of(s, api.Fixed).Size = 1001 },
		"a branch twice":           func(s *api.Schema) { u := of(s, api.Union); u.Branches[2] = u.Branches[1] },
		"no branches":              func(s *api.Schema) { of(s, api.Union).Branches = nil },
		"another kind's Aliases":   func(s *api.Schema) { of(s, api.Int).Aliases = []string{"a"} },
		"another kind's Fields":    func(s *api.Schema) { of(s, api.Array).Fields = []api.Field{{Name: "a"}} },
		"another kind's Symbols":   func(s *api.Schema) { of(s, api.Fixed).Symbols = []string{"A"} },
		"another kind's Has":       func(s *api.Schema) { s.Nodes[0].Has = true },
		"another kind's Default":   func(s *api.Schema) { of(s, api.Union).Default = "A" },
		"another kind's Items":     func(s *api.Schema) { s.Nodes[0].Items = 1 },
		"another kind's Size":      func(s *api.Schema) { of(s, api.Union).Size = 1 },
		"another kind's Branches":  func(s *api.Schema) { of(s, api.Int).Branches = []int{1} },
		"another kind's Name":      func(s *api.Schema) { of(s, api.Map).Name = "a" },
		"many aliases":             func(s *api.Schema) { s.Nodes[0].Aliases = slices.Repeat([]string{"a"}, 41) },
		"many aliases of a field":  func(s *api.Schema) { s.Nodes[0].Fields[1].Aliases = slices.Repeat([]string{"a"}, 41) },
	}
	for _, kind := range []int{math.MinInt, -1, 0, 15, 1<<32 + 3, math.MaxInt} {
		out[fmt.Sprint("the kind ", kind)] = func(s *api.Schema) { of(s, api.Int).Kind = kind }
	}
	return out
}

// P15.1: what one answer is does not hang on those ahead.
func TestNothingIsKept(t *testing.T) {
	s := rich()
	for range 3 {
		checkRow(t, s, richForm)
		checkRefused(t, api.Schema{}, 2)
		checkRefused(t, filled(t, 20001, fixed("n.x", 4)), 3)
		checkShape(t, enum("n.e", "Z"), `{"name":"n.e","type":"enum","symbols":["Z"]}`)
	}
	// Answers that are kept stay as they were.
	first, _ := canon.Form(s)
	second, _ := canon.Form(lay(enum("e", "A")))
	third, _ := canon.Form(s)
	for at := range third {
		third[at] = '*'
	}
	if string(first) != richForm || string(second) != `{"name":"e","type":"enum","symbols":["A"]}` {
		t.Errorf("%s, %s", first, second)
	}
}
