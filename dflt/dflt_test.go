package dflt_test

import (
	"fmt"
	"math"
	"slices"
	"strings"
	"testing"

	"avocet/api"
	"avocet/dflt"
)

// The examples.
func TestExamples(t *testing.T) {
	checkRows(t, []row{
		{`["int","null"]`, `7`, `<int 7>`},
		{`["int","null"]`, `null`, ``},
		{`"bytes"`, `"\u00ff"`, `bytes ff`},
	})
}

// kinds are schemas of each kind, each with the trees that say a value of it, of those of eachTree.
func kinds() map[string]map[string]string {
	return map[string]map[string]string{
		`"null"`:                               {`null`: `null`},
		`"boolean"`:                            {`true`: `boolean 1`, `false`: `boolean 0`},
		`"int"`:                                {`0`: `int 0`, `1`: `int 1`, `-7`: `int -7`},
		`"long"`:                               {`0`: `long 0`, `1`: `long 1`, `-7`: `long -7`, `2147483648`: `long 2147483648`},
		`"float"`:                              {`0`: `float 00000000`, `1`: `float 3f800000`, `-7`: `float c0e00000`, `2147483648`: `float 4f000000`},
		`"double"`:                             {`0`: `double 0000000000000000`, `1`: `double 3ff0000000000000`, `-7`: `double c01c000000000000`, `2147483648`: `double 41e0000000000000`},
		`"bytes"`:                              {`""`: `bytes `, `"a"`: `bytes 61`, `"A"`: `bytes 41`, `"ä"`: `bytes e4`, `"null"`: `bytes 6e756c6c`, `"0"`: `bytes 30`},
		`"string"`:                             {`""`: `string `, `"a"`: `string a`, `"A"`: `string A`, `"ä"`: `string ä`, `"€"`: `string €`, `"null"`: `string null`, `"0"`: `string 0`},
		`{"type":"fixed","name":"x","size":1}`: {`"a"`: `fixed 61`, `"A"`: `fixed 41`, `"ä"`: `fixed e4`, `"0"`: `fixed 30`},
		`{"type":"fixed","name":"x","size":0}`: {`""`: `fixed `},
		`{"type":"enum","name":"e","symbols":["B","A","null"]}`:                         {`"A"`: `enum 1`, `"null"`: `enum 2`},
		`{"type":"array","items":"int"}`:                                                {`[]`: `[]`, `[0]`: `[int 0]`, `[1,1]`: `[int 1, int 1]`},
		`{"type":"array","items":"null"}`:                                               {`[]`: `[]`, `[null]`: `[null]`},
		`{"type":"map","values":"int"}`:                                                 {`{}`: `{}`, `{"a":1}`: `{a: int 1}`},
		`{"type":"map","values":"null"}`:                                                {`{}`: `{}`, `{"b":null}`: `{b: null}`},
		`{"type":"record","name":"r","fields":[]}`:                                      {`{}`: `()`, `{"a":1}`: `()`, `{"b":null}`: `()`},
		`{"type":"record","name":"r","fields":[{"name":"a","type":"int"}]}`:             {`{"a":1}`: `(int 1)`},
		`{"type":"record","name":"r","fields":[{"name":"a","type":"int","default":5}]}`: {`{}`: `(int 5)`, `{"a":1}`: `(int 1)`, `{"b":null}`: `(int 5)`},
		`["null","int"]`:                                        {`null`: `<null>`},
		`["int","null","string"]`:                               {`0`: `<int 0>`, `1`: `<int 1>`, `-7`: `<int -7>`},
		`[{"type":"array","items":"int"},"null"]`:               {`[]`: `<[]>`, `[0]`: `<[int 0]>`, `[1,1]`: `<[int 1, int 1]>`},
		`["string","bytes","null"]`:                             {`""`: `<string >`, `"a"`: `<string a>`, `"A"`: `<string A>`, `"ä"`: `<string ä>`, `"€"`: `<string €>`, `"null"`: `<string null>`, `"0"`: `<string 0>`},
		`["boolean"]`:                                           {`true`: `<boolean 1>`, `false`: `<boolean 0>`},
		`[{"type":"map","values":"null"},"int"]`:                {`{}`: `<{}>`, `{"b":null}`: `<{b: null}>`},
		`[{"type":"fixed","name":"x","size":1}]`:                {`"a"`: `<fixed 61>`, `"A"`: `<fixed 41>`, `"ä"`: `<fixed e4>`, `"0"`: `<fixed 30>`},
		`[{"type":"enum","name":"e","symbols":["A"]},"string"]`: {`"A"`: `<enum 0>`},
	}
}

// eachTree are trees of each kind.
func eachTree() []string {
	return []string{
		`null`, `true`, `false`, `0`, `1`, `-7`, `2147483648`, `""`, `"a"`, `"A"`, `"ä"`, `"€"`, `"null"`, `"0"`, `[]`, `[0]`, `[null]`, `[1,1]`, `{}`, `{"a":1}`, `{"b":null}`,
	}
}

// P13.1: of each kind of node each kind of tree, at each place.
func TestKindsOfKinds(t *testing.T) {
	for schema, lines := range kinds() {
		for _, text := range eachTree() {
			checkNode(t, tree(schema), tree(text), lines[text])
		}
		for text := range lines {
			if !slices.Contains(eachTree(), text) {
				t.Errorf("nobody asks for %s", text)
			}
		}
	}
}

// P13.1: an Int's and a Long's bounds.
func TestNumbers(t *testing.T) {
	for n, isInt := range map[int64]bool{
		0: true, 1: true, -1: true, 127: true, 128: true, 65536: true, math.MaxInt32 - 1: true, math.MaxInt32: true, math.MaxInt32 + 1: false, math.MaxInt32 + 2: false,
		math.MinInt32 + 1: true, math.MinInt32: true, math.MinInt32 - 1: false, math.MinInt32 - 2: false, 1 << 32: false, 1<<32 + 7: false, -1 << 32: false, -1<<32 + 7: false,
		math.MaxInt64 - 1: false, math.MaxInt64: false, math.MinInt64: false, math.MinInt64 + 1: false,
	} {
		want := ""
		if isInt {
			want = fmt.Sprint("int ", n)
		}
		checkNode(t, text("int"), number(n), want)
		checkNode(t, text("long"), number(n), fmt.Sprint("long ", n))
	}
}

// P13.1: Floats and Doubles: numbers that are rounded up, down and to the even one, and the ends of what there is.
func TestFloats(t *testing.T) {
	for _, r := range []struct {
		n             int64
		float, double string
	}{
		{0, "00000000", "0000000000000000"},
		{1, "3f800000", "3ff0000000000000"},
		{-1, "bf800000", "bff0000000000000"},
		{3, "40400000", "4008000000000000"},
		{16777215, "4b7fffff", "416fffffe0000000"},
		{16777216, "4b800000", "4170000000000000"},
		{16777217, "4b800000", "4170000010000000"}, // a half, down to the even one
		{16777218, "4b800001", "4170000020000000"},
		{16777219, "4b800002", "4170000030000000"}, // a half, up to it
		{-16777217, "cb800000", "c170000010000000"},
		{-16777219, "cb800002", "c170000030000000"},
		{33554433, "4c000000", "4180000008000000"}, // down
		{33554434, "4c000000", "4180000010000000"},
		{33554435, "4c000001", "4180000018000000"}, // up
		{33554438, "4c000002", "4180000030000000"},
		{2147483647, "4f000000", "41dfffffffc00000"},
		{2147483648, "4f000000", "41e0000000000000"},
		{9007199254740991, "5a000000", "433fffffffffffff"},
		{9007199254740992, "5a000000", "4340000000000000"},
		{9007199254740993, "5a000000", "4340000000000000"}, // a half, down to the even one
		{9007199254740994, "5a000000", "4340000000000001"},
		{9007199254740995, "5a000000", "4340000000000002"}, // a half, up to it
		{-9007199254740993, "da000000", "c340000000000000"},
		{-9007199254740995, "da000000", "c340000000000002"},
		{18014398509481985, "5a800000", "4350000000000000"}, // down
		{18014398509481987, "5a800000", "4350000000000001"}, // up
		{math.MaxInt64, "5f000000", "43e0000000000000"},
		{math.MaxInt64 - 511, "5f000000", "43e0000000000000"},
		{math.MaxInt64 - 512, "5f000000", "43dfffffffffffff"},
		{math.MinInt64, "df000000", "c3e0000000000000"},
		{math.MinInt64 + 1, "df000000", "c3e0000000000000"},
		{math.MinInt64 + 513, "df000000", "c3dfffffffffffff"},
	} {
		checkNode(t, text("float"), number(r.n), "float "+r.float)
		checkNode(t, text("double"), number(r.n), "double "+r.double)
	}
	some := random(13)
	float, double := of(`"float"`), of(`"double"`)
	for range 2000 {
		n := int64(some(math.MaxInt)) >> some(63)
		check(t, float, 0, number(n))
		check(t, float, 0, number(-n))
		check(t, double, 0, number(n))
		check(t, double, 0, number(-n))
	}
}

// sized is a text of so many bytes, that ends with a character.
func sized(bytes int, end string) string { return strings.Repeat("x", bytes-len(end)) + end }

// P13.1: Strings of any characters, up to MaxBytes bytes.
func TestStrings(t *testing.T) {
	for _, s := range []string{"", "\x00", "a", "\x7f", "\u0080", "ÿ", "Ā", "\u07ff", "\u0800", "\ud7ff", "\ue000", "\ufffd", "\uffff", "\U00010000", "\U0010ffff", "aä€😀", "a\u0308", "\"\\\n", "null", "7"} {
		checkNode(t, text("string"), text(s), "string "+s)
	}
	for _, size := range []int{300, 301, 1000, 1001, 19998, 19999, 20000, 20001, 20002, 40000, 65536} {
		for _, end := range []string{"x", "ä", "€", "😀", "😀😀"} {
			s, want := sized(size, end), ""
			if size <= 20000 {
				want = "string " + s
			}
			for _, where := range append(stands()[:2], branches()[2]) {
				checkAt(t, where, text("string"), text(s), want)
			}
			// Of such characters alone, as many as there is room for, or one more.
			s, want = strings.Repeat(end, size/len(end)), ""
			if len(s) <= 20000 {
				want = "string " + s
			}
			checkIs(t, of(`"string"`), 0, text(s), want)
		}
	}
}

// P13.1: a byte for each character, of Bytes and of a Fixed; and those that are none.
func TestCharacters(t *testing.T) {
	bytes, one, three := of(`"bytes"`), of(`{"type":"fixed","name":"x","size":1}`), of(`{"type":"fixed","name":"x","size":3}`)
	for c := range rune(0x10ffff + 1) {
		// Each one up to 4000, and then ones that hang on no rule of theirs.
		if c >= 0xd800 && c <= 0xdfff || c > 4000 && c%1009 != 0 && c%4096 != 65 && c%256 != 0 {
			continue
		}
		whole, among := "", ""
		if c < 256 {
			whole, among = fmt.Sprintf("%02x", c), fmt.Sprintf("61%02xff", c)
		}
		checkIs(t, bytes, 0, text(string(c)), prefixed("bytes ", whole))
		checkIs(t, one, 0, text(string(c)), prefixed("fixed ", whole))
		checkIs(t, bytes, 0, text("a"+string(c)+"ÿ"), prefixed("bytes ", among))
		checkIs(t, three, 0, text("a"+string(c)+"ÿ"), prefixed("fixed ", among))
	}
	for _, c := range []string{"Ā", "š", "߿", "ࠀ", "€", "\uff41", "\uffff", "\U00010000", "\U00010041", "😀", "\U0010ffff"} {
		for _, s := range []string{c, c + "ab", "a" + c + "b", "ab" + c, "ÿÿ" + c, c + "ÿÿ", c + c + c} {
			checkNode(t, text("bytes"), text(s), "")
			checkNode(t, tree(`{"type":"fixed","name":"x","size":3}`), text(s), "")
			checkNode(t, tree(`{"type":"fixed","name":"x","size":1}`), text(s), "")
		}
	}
	all := ""
	for c := range rune(256) {
		all += string(c)
	}
	want := ""
	for c := range 256 {
		want += fmt.Sprintf("%02x", c)
	}
	checkNode(t, text("bytes"), text(all), "bytes "+want)
	checkNode(t, tree(`{"type":"fixed","name":"x","size":256}`), text(all), "fixed "+want)
	checkNode(t, tree(`{"type":"fixed","name":"x","size":255}`), text(all), "")
	checkNode(t, tree(`{"type":"fixed","name":"x","size":257}`), text(all), "")
}

// prefixed is a text behind another, or nothing, if it is nothing.
func prefixed(ahead, s string) string {
	if s == "" {
		return ""
	}
	return ahead + s
}

// P13.1: Bytes of up to MaxBytes characters, however many bytes these are.
func TestBytes(t *testing.T) {
	for _, c := range []struct{ text, line string }{{"x", "78"}, {"ÿ", "ff"}, {"\x00", "00"}, {"xÿ", "78ff"}, {"ÿx", "ff78"}} {
		each := len(c.line) / 2
		for _, size := range []int{0, each, 300, 1000, 1002, 9998, 10000, 10002, 19998, 20000 - each, 20000, 20000 + each, 20002, 30000, 40000, 40002} {
			s, want := text(strings.Repeat(c.text, size/each)), ""
			if size <= 20000 {
				want = "bytes " + strings.Repeat(c.line, size/each)
			}
			for _, where := range append(stands()[:2], branches()[2]) {
				checkAt(t, where, text("bytes"), s, want)
			}
		}
	}
	bytes := of(`"bytes"`)
	for _, size := range []int{19998, 19999, 20000, 20001, 20002} {
		for _, end := range []string{"ÿ", "Ā", "😀"} {
			want := ""
			if size <= 20000 && end == "ÿ" {
				want = "bytes " + strings.Repeat("78", size-1) + "ff"
			}
			checkIs(t, bytes, 0, text(strings.Repeat("x", size-1)+end), want)
		}
	}
}

// P13.1: of a Fixed as many characters as its Size.
func TestFixed(t *testing.T) {
	for _, size := range []int{0, 1, 2, 3, 4, 8, 127, 128, 255, 256, 300, 999, 1000} {
		node := filled(`{"type":"fixed","name":"x","size":"$0"}`, number(int64(size)))
		s := schemaOf(node)
		for _, have := range []int{0, 1, 2, 3, 5, size / 2, size - 2, size - 1, size, size + 1, size + 2, 2 * size, size + 256, 999, 1000, 1001, 20000, 20001} {
			if have < 0 {
				continue
			}
			for _, c := range []struct{ text, line string }{{"x", "78"}, {"ÿ", "ff"}, {"\x00", "00"}} {
				want := ""
				if have == size {
					want = "fixed " + strings.Repeat(c.line, have)
				}
				checkIs(t, s, 0, text(strings.Repeat(c.text, have)), want)
			}
			checkIs(t, s, 0, text(strings.Repeat("x", have)+"Ā"), "")
			checkIs(t, s, 0, text("Ā"+strings.Repeat("x", have)), "")
		}
		checkNode(t, node, text(strings.Repeat("ä", size)), "fixed "+strings.Repeat("e4", size))
		checkNode(t, node, text(strings.Repeat("ä", size)+"x"), "")
		if size > 0 {
			checkNode(t, node, text(strings.Repeat("ä", size-1)), "")
			checkNode(t, node, text(strings.Repeat("ä", size-1)+"Ā"), "")
			checkNode(t, node, text("Ā"+strings.Repeat("ä", size-1)), "")
		}
	}
}

// P13.1: an Enum's symbols; its default is none for others.
func TestEnums(t *testing.T) {
	for symbols := 1; symbols <= 40; symbols++ {
		var all []api.Json
		for n := range symbols {
			all = append(all, text(fmt.Sprint("S", n)))
		}
		for _, form := range []string{`{"type":"enum","name":"e","symbols":"$0"}`, `{"type":"enum","name":"e","symbols":"$0","default":"S0"}`} {
			node := filled(form, list(all...))
			s := schemaOf(node)
			for n := range 42 {
				want := ""
				if n < symbols {
					want = fmt.Sprint("enum ", n)
				}
				checkIs(t, s, 0, text(fmt.Sprint("S", n)), want)
				checkIs(t, s, 0, number(int64(n)), "")
			}
			for _, odd := range []string{"", "S", "s0", " S0", "S0 ", "S00", "S-1", "0", "e", "S0\x00", "S0,S1"} {
				checkIs(t, s, 0, text(odd), "")
			}
			checkNode(t, node, text("S0"), "enum 0")
			checkNode(t, node, text(fmt.Sprint("S", symbols-1)), fmt.Sprint("enum ", symbols-1))
			checkNode(t, node, text(fmt.Sprint("S", symbols)), "")
		}
	}
}

// sizes are numbers of items around bounds.
func sizes() []int { return []int{0, 1, 2, 3, 39, 40, 41, 298, 299, 300, 301, 302, 512, 600, 999} }

// P13.1: Arrays of up to MaxItems items, all of which say values.
func TestArrays(t *testing.T) {
	node := tree(`{"type":"array","items":"int"}`)
	s := schemaOf(node)
	for _, size := range sizes() {
		var items []api.Json
		var lines []string
		for n := range size {
			items = append(items, number(int64(n)))
			lines = append(lines, fmt.Sprint("int ", n))
		}
		want := ""
		if size <= 300 {
			want = "[" + strings.Join(lines, ", ") + "]"
		}
		checkIs(t, s, 0, list(items...), want)
		checkAt(t, stands()[5], node, list(items...), want)
		checkAt(t, branches()[0], node, list(items...), want)
		for _, at := range []int{0, 1, size / 2, size - 2, size - 1} {
			for _, odd := range []string{`null`, `true`, `"1"`, `2147483648`, `[]`, `[1]`, `{}`} {
				if at >= 0 && at < size {
					with := slices.Clone(items)
					with[at] = tree(odd)
					checkIs(t, s, 0, list(with...), "")
				}
			}
		}
	}
	checkRows(t, []row{
		{`{"type":"array","items":{"type":"array","items":"int"}}`, `[[],[1],[2,3]]`, `[[], [int 1], [int 2, int 3]]`},
		{`{"type":"array","items":{"type":"array","items":"int"}}`, `[[],[1],[2,"3"]]`, ``},
		{`{"type":"array","items":{"type":"array","items":"int"}}`, `[[null],[1],[2,3]]`, ``},
		{`{"type":"array","items":["int","null"]}`, `[1,2]`, `[<int 1>, <int 2>]`},
		{`{"type":"array","items":["int","null"]}`, `[1,null]`, ``},
		{`{"type":"array","items":"bytes"}`, `["","ÿ","aa"]`, `[bytes , bytes ff, bytes 6161]`},
	})
}

// P13.1: Maps of up to MaxItems items, all of which say values.
func TestMaps(t *testing.T) {
	node := tree(`{"type":"map","values":"int"}`)
	s := schemaOf(node)
	for _, size := range sizes() {
		var items []api.Json
		var lines []string
		for n := range size {
			items = append(items, number(int64(n)))
			lines = append(lines, fmt.Sprintf("k%d: int %d", n, n))
		}
		want := ""
		if size <= 300 {
			want = "{" + strings.Join(lines, ", ") + "}"
		}
		checkIs(t, s, 0, numbered(items...), want)
		checkAt(t, stands()[5], node, numbered(items...), want)
		checkAt(t, branches()[0], node, numbered(items...), want)
		for _, at := range []int{0, 1, size / 2, size - 2, size - 1} {
			for _, odd := range []string{`null`, `true`, `"1"`, `2147483648`, `[]`, `[1]`, `{}`} {
				if at >= 0 && at < size {
					with := slices.Clone(items)
					with[at] = tree(odd)
					checkIs(t, s, 0, numbered(with...), "")
				}
			}
		}
	}
	checkRows(t, []row{
		{`{"type":"map","values":"int"}`, `{"":1}`, `{: int 1}`},
		{`{"type":"map","values":"int"}`, `{"b":1,"a":2,"":3,"c":4}`, `{b: int 1, a: int 2, : int 3, c: int 4}`},
		{`{"type":"map","values":"int"}`, `{"c":4,"a":2,"b":1}`, `{c: int 4, a: int 2, b: int 1}`},
		{`{"type":"map","values":"int"}`, `{"ä€😀":1,"\u0000":2,"no name":3}`, "{ä€😀: int 1, \x00: int 2, no name: int 3}"},
		{`{"type":"map","values":"int"}`, `{"a":1,"b":null}`, ``},
		{`{"type":"map","values":{"type":"map","values":"string"}}`, `{"x":{},"y":{"x":"y"}}`, `{x: {}, y: {x: string y}}`},
		{`{"type":"map","values":{"type":"map","values":"string"}}`, `{"x":{},"y":{"x":1}}`, ``},
		{`{"type":"map","values":{"type":"record","name":"r","fields":[{"name":"a","type":"int","default":5}]}}`, `{"a":{},"b":{"a":1}}`, `{a: (int 5), b: (int 1)}`},
	})
}

// P13.1: a Map's keys, of up to MaxBytes bytes each.
func TestKeys(t *testing.T) {
	s := of(`{"type":"map","values":"int"}`)
	keyed := func(keys ...string) api.Json {
		return api.Json{Kind: api.JObj, Keys: keys, Items: times(len(keys), number(1))}
	}
	for _, size := range []int{8, 100, 101, 300, 19998, 19999, 20000, 20001, 20002, 40000} {
		for _, end := range []string{"x", "ä", "€", "😀"} {
			key := sized(size, end)
			for _, keys := range [][]string{{key}, {key, "", "a"}, {"", key, "a"}, {"", "a", key}, {key, "y" + key[1:]}, {sized(20000, "ä"), key}} {
				if len(keys) == 2 && keys[0] == keys[1] {
					continue
				}
				want := ""
				if size <= 20000 {
					want = "{" + strings.Join(keys, ": int 1, ") + ": int 1}"
				}
				checkIs(t, s, 0, keyed(keys...), want)
			}
			// What is no item of a Record is not asked for its key.
			checkIs(t, of(`{"type":"record","name":"r","fields":[{"name":"a","type":"int"}]}`), 0, keyed(key, "a"), "(int 1)")
		}
	}
}

// record is what rows of Records are asked of.
const record = `{"type":"record","name":"n.r","fields":[{"name":"a","type":"int"},{"name":"b","type":"string","default":"d"},{"name":"c","type":["null","int"],"default":null},{"name":"d","type":"bytes"}]}`

// P13.1: a Record's fields: by their items, by their defaults, and none.
func TestRecords(t *testing.T) {
	checkRows(t, []row{
		{record, `{"a":1,"b":"x","c":null,"d":"ÿ"}`, `(int 1, string x, <null>, bytes ff)`},
		{record, `{"d":"ÿ","c":null,"b":"x","a":1}`, `(int 1, string x, <null>, bytes ff)`},
		{record, `{"d":"ÿ","a":1}`, `(int 1, string d, <null>, bytes ff)`},
		{record, `{"d":"ÿ","c":null,"a":1}`, `(int 1, string d, <null>, bytes ff)`},
		{record, `{"b":"","d":"ÿ","a":1}`, `(int 1, string , <null>, bytes ff)`},
		{record, `{"a":1,"e":2,"d":"","A":[],"":{"a":null},"n.r":0,"b.c":5}`, `(int 1, string d, <null>, bytes )`}, // items that no field asks for
		{record, `{}`, ``},
		{record, `{"a":1}`, ``}, // nothing says d
		{record, `{"d":""}`, ``},
		{record, `{"A":1,"d":""}`, ``},
		{record, `{"a":null,"d":""}`, ``}, // an item that says no value: of the first field, of the last, of ones with a default
		{record, `{"a":1,"d":"Ā"}`, ``},
		{record, `{"a":1,"b":null,"d":""}`, ``},
		{record, `{"a":1,"b":7,"d":""}`, ``},
		{record, `{"a":1,"c":7,"d":""}`, ``},
		{record, `[1,"x",null,"ÿ"]`, ``},
		// The other names of a field are not its name.
		{`{"type":"record","name":"r","aliases":["q"],"fields":[{"name":"a","aliases":["b"],"type":"int"}]}`, `{"b":1}`, ``},
		{`{"type":"record","name":"r","fields":[{"name":"a","aliases":["b"],"type":"int","default":2}]}`, `{"b":1}`, `(int 2)`},
		// Keys that are alike but for their letters' size.
		{`{"type":"record","name":"r","fields":[{"name":"a","type":"int"},{"name":"A","type":"int"}]}`, `{"A":1,"a":2}`, `(int 2, int 1)`},
	})
	checkRows(t, []row{
		// Defaults that are filled up by defaults.
		{`{"type":"record","name":"r","fields":[{"name":"a","type":{"type":"record","name":"s","fields":[{"name":"b","type":"int","default":3},{"name":"c","type":"int","default":4}]},"default":{"c":5}},{"name":"d","type":"s","default":{}},{"name":"e","type":"s"}]}`, `{"e":{"b":6}}`, `((int 3, int 5), (int 3, int 4), (int 6, int 4))`},
		{`{"type":"record","name":"r","fields":[{"name":"a","type":{"type":"record","name":"s","fields":[{"name":"b","type":{"type":"record","name":"u","fields":[{"name":"c","type":"int","default":1}]},"default":{}}]},"default":{}}]}`, `{}`, `(((int 1)))`},
		{`{"type":"record","name":"r","fields":[{"name":"a","type":{"type":"record","name":"s","fields":[{"name":"b","type":{"type":"record","name":"u","fields":[{"name":"c","type":"int","default":1}]},"default":{}}]},"default":{}}]}`, `{"a":{"b":{"c":2}}}`, `(((int 2)))`},
		{`{"type":"record","name":"r","fields":[{"name":"a","type":{"type":"record","name":"s","fields":[{"name":"b","type":"int"}]},"default":{"b":2}}]}`, `{}`, `((int 2))`},
		{`{"type":"record","name":"r","fields":[{"name":"a","type":{"type":"record","name":"s","fields":[{"name":"b","type":"int"}]},"default":{"b":2}}]}`, `{"a":{}}`, ``},
		// The key of a Record's item says nothing of what is in it, or of what it is in.
		{`{"type":"record","name":"r","fields":[{"name":"a","type":{"type":"record","name":"s","fields":[{"name":"a","type":"int"},{"name":"b","type":"int"}]}}]}`, `{"a":{"a":1,"b":2},"b":3}`, `((int 1, int 2))`},
		{`{"type":"record","name":"r","fields":[{"name":"a","type":{"type":"record","name":"s","fields":[{"name":"a","type":"int"},{"name":"b","type":"int"}]}}]}`, `{"a":{"a":1},"b":3}`, ``},
	})
	unsaid := of(`{"type":"array","items":{"type":"record","name":"r","fields":[{"name":"a","type":"int","default":null},{"name":"b","type":"int","default":1}]}}`)
	checkIs(t, unsaid, 0, tree(`[]`), `[]`)
	checkIs(t, unsaid, 0, tree(`[{"a":7}]`), `[(int 7, int 1)]`)
	checkIs(t, unsaid, 0, tree(`[{"a":7},{"b":7}]`), ``)
	checkIs(t, unsaid, 0, tree(`[{}]`), ``)
	checkIs(t, unsaid, 1, tree(`{"b":3}`), ``)
	// The default that is none is of a record in the default.
	inner := of(`{"type":"record","name":"r","fields":[{"name":"a","type":{"type":"record","name":"s","fields":[{"name":"b","type":"int","default":"x"}]},"default":{}}]}`)
	checkIs(t, inner, 0, tree(`{}`), ``)
	checkIs(t, inner, 0, tree(`{"a":{}}`), ``)
	checkIs(t, inner, 0, tree(`{"a":{"b":0}}`), `((int 0))`)
}

// P13.1: each order of a Record's items, and each choice of them.
func TestOrdersOfItems(t *testing.T) {
	s := of(record)
	items := map[string]api.Json{"a": number(1), "b": text("x"), "c": tree(`null`), "d": text("ÿ"), "e": number(5)}
	var orders func(ahead, left []string)
	orders = func(ahead, left []string) {
		j := api.Json{Kind: api.JObj}
		for _, key := range ahead {
			j.Keys, j.Items = append(j.Keys, key), append(j.Items, items[key])
		}
		want := ""
		if slices.Contains(ahead, "a") && slices.Contains(ahead, "d") {
			want = "(int 1, string d, <null>, bytes ff)"
		}
		if slices.Contains(ahead, "b") {
			want = strings.Replace(want, "string d", "string x", 1)
		}
		checkIs(t, s, 0, j, want)
		for at, key := range left {
			orders(append(slices.Clone(ahead), key), slices.Delete(slices.Clone(left), at, at+1))
		}
	}
	orders(nil, []string{"a", "b", "c", "d", "e"})
}

// P13.1: Records of as many fields as there may be.
func TestManyFields(t *testing.T) {
	for _, size := range []int{0, 1, 2, 38, 39, 40} {
		for has := range 3 {
			var fields []api.Json
			j := api.Json{Kind: api.JObj}
			var lines []string
			for n := range size {
				name, form := text(fmt.Sprint("f", n)), `{"name":"$0","type":"int"}`
				if n%3 < has {
					form = `{"name":"$0","type":"int","default":"$1"}`
				} else {
					j.Keys, j.Items = append(j.Keys, name.Text), append(j.Items, number(int64(n)))
				}
				fields = append(fields, filled(form, name, number(int64(n))))
				lines = append(lines, fmt.Sprint("int ", n))
			}
			s := schemaOf(filled(`{"type":"record","name":"r","fields":"$0"}`, list(fields...)))
			slices.Reverse(j.Keys)
			slices.Reverse(j.Items)
			checkIs(t, s, 0, j, "("+strings.Join(lines, ", ")+")")
			if e := checkFields(t, s); e != api.OK {
				t.Errorf("%d fields: %d", size, e)
			}
			for at := range j.Keys {
				less := api.Json{Kind: api.JObj, Keys: slices.Delete(slices.Clone(j.Keys), at, at+1), Items: slices.Delete(slices.Clone(j.Items), at, at+1)}
				checkIs(t, s, 0, less, "")
				other := api.Json{Kind: api.JObj, Keys: j.Keys, Items: slices.Clone(j.Items)}
				other.Items[at] = text("")
				checkIs(t, s, 0, other, "")
			}
		}
	}
}

// P13.1: a Union's value is one of its first branch, whatever else a tree says.
func TestUnions(t *testing.T) {
	checkRows(t, []row{
		{`["int","null"]`, `7`, `<int 7>`},
		{`["int","long"]`, `2147483648`, ``}, // one of another branch alone
		{`["null","int"]`, `7`, ``},
		{`["int","null"]`, `null`, ``},
		{`["bytes","string"]`, `"Ā"`, ``},
		{`["string","bytes"]`, `"Ā"`, `<string Ā>`},
		{`[{"type":"enum","name":"e","symbols":["A"]},{"type":"enum","name":"f","symbols":["B"]}]`, `"B"`, ``},
		{`[{"type":"enum","name":"e","symbols":["A"]},{"type":"enum","name":"f","symbols":["B"]}]`, `"A"`, `<enum 0>`},
		{`[{"type":"map","values":"int"},{"type":"record","name":"r","fields":[{"name":"a","type":"string"}]}]`, `{"a":"x"}`, ``},
		{`[{"type":"map","values":"int"},{"type":"record","name":"r","fields":[{"name":"a","type":"string"}]}]`, `{"a":1}`, `<{a: int 1}>`},
		{`[{"type":"record","name":"r","fields":[{"name":"a","type":"string"}]},{"type":"map","values":"int"}]`, `{"a":"x"}`, `<(string x)>`},
		{`[{"type":"record","name":"r","fields":[{"name":"a","type":"string","default":"d"}]},"null"]`, `{}`, `<(string d)>`},
		{`[{"type":"record","name":"r","fields":[{"name":"a","type":"string"}]},"null"]`, `{}`, ``},
		{`[{"type":"record","name":"r","fields":[{"name":"a","type":["int","r"],"default":3}]},"null"]`, `{}`, `<(<int 3>)>`},
		{`[{"type":"array","items":["null","int"]}]`, `[null,null]`, `<[<null>, <null>]>`},
		{`[{"type":"array","items":["null","int"]}]`, `[null,1]`, ``},
		{`["null","boolean","int","long","float","double","bytes","string",{"type":"array","items":"int"},{"type":"map","values":"int"}]`, `null`, `<null>`},
		{`["string","null","boolean","int","long","float","double","bytes",{"type":"array","items":"int"},{"type":"map","values":"int"}]`, `[1]`, ``},
		// An object of a branch's name is none of the JSON that values of unions are told by elsewhere.
		{`["int","null"]`, `{"int":7}`, ``},
	})
	// A branch that stands elsewhere: a union's first one is a record around it.
	s := of(`{"type":"record","name":"r","fields":[{"name":"f","type":{"type":"array","items":["r","null"]},"default":[]}]}`)
	checkIs(t, s, 0, tree(`{"f":[{},{"f":[{}]}]}`), `([<([])>, <([<([])>])>])`)
	checkIs(t, s, 2, tree(`{}`), `<([])>`)
	checkIs(t, s, 2, tree(`null`), ``)
	checkIs(t, s, 3, tree(`null`), `null`)
}

// P13.1: a node is any of the schema's, and none below 0 or behind the last.
func TestPlaces(t *testing.T) {
	s := of(`{"type":"record","name":"r","fields":[{"name":"a","type":"int"},{"name":"b","type":{"type":"array","items":["string","null"]},"default":[]},{"name":"c","type":{"type":"fixed","name":"x","size":2}}]}`)
	all := []map[string]string{
		{`{"a":1,"c":"ab"}`: `(int 1, [], fixed 6162)`}, {`5`: `int 5`}, {`["x"]`: `[<string x>]`}, {`"x"`: `<string x>`}, {`"x"`: `string x`}, {`null`: `null`}, {`"xÿ"`: `fixed 78ff`},
	}
	for at, lines := range all {
		for text, want := range lines {
			checkIs(t, s, at, tree(text), want)
		}
		for _, text := range append(eachTree(), `{"a":1,"c":"ab"}`, `["x"]`, `"x"`, `"xÿ"`) {
			check(t, s, at, tree(text))
		}
	}
	for _, at := range append(farPlaces(), len(s.Nodes), len(s.Nodes)+1) {
		for _, text := range eachTree() {
			if _, e := check(t, s, at, tree(text)); e != 2 {
				t.Errorf("at %d: %d", at, e)
			}
		}
	}
}

// spoilt are schemas that may not be.
func spoilt() []api.Schema {
	field := api.Field{Name: "f", Type: 1, Has: true, Default: tree(`1`)}
	out := []api.Schema{
		{}, {Nodes: []api.Node{}}, {Root: 1}, {Nodes: []api.Node{{}}}, {Nodes: []api.Node{{Kind: 15}}}, {Nodes: []api.Node{{Kind: -1}}},
		{Nodes: []api.Node{{Kind: api.Int}}, Root: 1}, {Nodes: []api.Node{{Kind: api.Int}}, Root: -1},
		{Nodes: []api.Node{{Kind: api.Int}, {Kind: api.Int}}},
		{Nodes: []api.Node{{Kind: api.Int, Size: 1}}},
		{Nodes: []api.Node{{Kind: api.Array, Items: 1}}}, {Nodes: []api.Node{{Kind: api.Array}}}, {Nodes: []api.Node{{Kind: api.Map, Items: -1}}},
		{Nodes: []api.Node{{Kind: api.Union}}}, {Nodes: []api.Node{{Kind: api.Union, Branches: []int{1}}}}, {Nodes: []api.Node{{Kind: api.Union, Branches: []int{-5}}}},
		{Nodes: []api.Node{{Kind: api.Fixed, Name: "x", Size: -1}}}, {Nodes: []api.Node{{Kind: api.Fixed, Name: "x", Size: 1001}}}, {Nodes: []api.Node{{Kind: api.Fixed, Size: 1}}},
		{Nodes: []api.Node{{Kind: api.Enum, Name: "e"}}}, {Nodes: []api.Node{{Kind: api.Enum, Name: "e", Symbols: []string{"A", "A"}}}},
		{Nodes: []api.Node{{Kind: api.Record, Name: "r", Fields: []api.Field{{Name: "f", Type: 0, Has: true, Default: tree(`{}`)}}}}},
		{Nodes: []api.Node{{Kind: api.Record, Name: "r", Fields: []api.Field{field, field}}, {Kind: api.Int}}},
		{Nodes: []api.Node{{Kind: api.Record, Name: "int", Fields: []api.Field{field}}, {Kind: api.Int}}},
		{Nodes: slices.Repeat([]api.Node{{Kind: api.Int}}, 201)},
	}
	for _, odd := range oddTrees() {
		f := field
		f.Default = odd
		out = append(out, api.Schema{Nodes: []api.Node{{Kind: api.Record, Name: "r", Fields: []api.Field{f}}, {Kind: api.Int}}})
	}
	f := field
	f.Has = false
	return append(out, api.Schema{Nodes: []api.Node{{Kind: api.Record, Name: "r", Fields: []api.Field{f}}, {Kind: api.Int}}})
}

// oddTrees are trees that may not be.
func oddTrees() []api.Json {
	deep := tree(`[]`)
	for range 32 {
		deep = list(deep)
	}
	return []api.Json{
		{}, {Kind: -1}, {Kind: 7}, {Kind: 1 << 32}, {Int: 1}, {Kind: api.JNull, Int: 1}, {Kind: api.JNull, Text: "x"}, {Kind: api.JBool, Int: 2}, {Kind: api.JBool, Int: -1},
		{Kind: api.JInt, Text: "x"}, {Kind: api.JInt, Items: list(number(1)).Items}, {Kind: api.JText, Int: 1}, {Kind: api.JText, Text: "\xff"}, {Kind: api.JText, Text: "\xc3"}, {Kind: api.JText, Text: "a\xed\xa0\x80"}, {Kind: api.JText, Keys: []string{"a"}},
		{Kind: api.JList, Keys: []string{"a"}}, {Kind: api.JList, Items: []api.Json{{}}}, {Kind: api.JObj, Keys: []string{"a"}}, {Kind: api.JObj, Items: list(number(1)).Items},
		{Kind: api.JObj, Keys: []string{"a", "a"}, Items: times(2, number(1))}, {Kind: api.JObj, Keys: []string{"\xff"}, Items: times(1, number(1))}, {Kind: api.JObj, Keys: []string{"a", "b"}, Items: []api.Json{number(1), {Kind: api.JBool, Int: 2}}},
		deep, list(tree(`null`), deep),
	}
}

// P13.1, P13.2: what may not be is told ahead of all else.
func TestWhatMayNotBe(t *testing.T) {
	for _, s := range spoilt() {
		if e := checkFields(t, s); e != 2 {
			t.Errorf("Check(%s) = %d", said(s), e)
		}
		checkNoFields(t, s)
		for _, at := range append(farPlaces(), 0, 1, 2) {
			for _, j := range append(oddTrees(), tree(`1`), tree(`{}`), tree(`[]`), tree(`null`), tree(`"x"`), tree(`{"f":1}`)) {
				if _, e := check(t, s, at, j); e != 2 {
					t.Errorf("Of(%s, %d, %s) = %d", said(s), at, said(j), e)
				}
			}
		}
	}
	for schema := range kinds() {
		s := of(schema)
		for _, j := range oddTrees() {
			for at := range s.Nodes {
				for _, j := range []api.Json{j, list(j), list(number(1), j), {Kind: api.JObj, Keys: []string{"a"}, Items: []api.Json{j}}, {Kind: api.JObj, Keys: []string{"a", "no"}, Items: []api.Json{number(1), j}}} {
					if _, e := check(t, s, at, j); e != 2 {
						t.Errorf("Of(%s, %d, %s) = %d", said(s), at, said(j), e)
					}
				}
			}
		}
	}
}

// P13.2: Check of schemas whose defaults all say values, and of ones of which one does not.
func TestCheck(t *testing.T) {
	for text, want := range map[string]api.Errno{
		`"int"`: 0,
		`{"type":"record","name":"r","fields":[]}`:                                                                                                  0,
		`{"type":"record","name":"r","fields":[{"name":"a","type":"int"},{"name":"b","type":"string"}]}`:                                            0,
		`{"type":"record","name":"r","fields":[{"name":"a","type":"int","default":1}]}`:                                                             0,
		`{"type":"record","name":"r","fields":[{"name":"a","type":"int","default":null}]}`:                                                          35,
		`{"type":"record","name":"r","fields":[{"name":"a","type":"int","default":"1"}]}`:                                                           35,
		`{"type":"record","name":"r","fields":[{"name":"a","type":"null","default":null}]}`:                                                         0,
		`{"type":"record","name":"r","fields":[{"name":"a","type":["null","int"],"default":null}]}`:                                                 0,
		`{"type":"record","name":"r","fields":[{"name":"a","type":["null","int"],"default":1}]}`:                                                    35,
		`{"type":"record","name":"r","fields":[{"name":"a","type":["int","null"],"default":null}]}`:                                                 35,
		`{"type":"record","name":"r","fields":[{"name":"a","type":["r","null"],"default":{}}]}`:                                                     35,
		`{"type":"record","name":"r","fields":[{"name":"a","type":["r","null"],"default":{"a":{"a":{}}}}]}`:                                         35,
		`{"type":"record","name":"r","fields":[{"name":"a","type":{"type":"array","items":"r"},"default":[]}]}`:                                     0,
		`{"type":"record","name":"r","fields":[{"name":"a","type":{"type":"array","items":"r"},"default":[{}]}]}`:                                   35,
		`{"type":"record","name":"r","fields":[{"name":"a","type":{"type":"array","items":"r"},"default":[{"a":[]}]}]}`:                             0,
		`{"type":"record","name":"r","fields":[{"name":"a","type":{"type":"map","values":"r"},"default":{"x":{"a":{}},"y":{"a":{"z":{"a":{}}}}}}]}`: 0,
		`{"type":"record","name":"r","fields":[{"name":"a","type":{"type":"enum","name":"e","symbols":["A"],"default":"A"},"default":"B"}]}`:        35,
	} {
		if e := checkFields(t, of(text)); e != want {
			t.Errorf("Check of %s = %d, not %d", text, e, want)
		}
		checkNoFields(t, of(text))
	}
}

// P13.2: Check finds the one default that says no value, of whichever field of whichever record.
func TestCheckAnyField(t *testing.T) {
	const records, size = 5, 7
	laid := func(odd int) api.Schema {
		var all []api.Json
		for r := range records {
			var fields []api.Json
			for f := range size {
				form := `{"name":"$0","type":"int","default":1}`
				if (r+f)%4 == 3 {
					form = `{"name":"$0","type":"int"}`
				}
				if r*size+f == odd {
					form = `{"name":"$0","type":"int","default":"1"}`
				}
				fields = append(fields, filled(form, text(fmt.Sprint("f", f))))
			}
			all = append(all, filled(`{"type":"record","name":"$0","fields":"$1"}`, text(fmt.Sprint("r", r)), list(fields...)))
		}
		return schemaOf(filled(`["$0",{"type":"array","items":["$1","$2"]},{"type":"record","name":"r","fields":[{"name":"a","type":["$3","null"]},{"name":"b","type":{"type":"map","values":"$4"}}]}]`, all...))
	}
	if e := checkFields(t, laid(-1)); e != api.OK {
		t.Errorf("Check = %d", e)
	}
	for odd := range records * size {
		if e := checkFields(t, laid(odd)); e != 35 {
			t.Errorf("Check with the field %d = %d", odd, e)
		}
	}
}

// P13.2: Field of a schema's fields, and of places that are none.
func TestField(t *testing.T) {
	s := of(`{"type":"record","name":"r","fields":[{"name":"a","type":"int","default":1},{"name":"b","type":"int"},{"name":"c","type":"int","default":"no"},{"name":"d","type":{"type":"array","items":{"type":"record","name":"s","fields":[{"name":"e","type":["null","r"],"default":null},{"name":"f","type":"bytes"}]}},"default":[{"f":"ÿ"}]},{"name":"g","type":{"type":"record","name":"empty","fields":[]},"default":{"x":1}}]}`)
	for _, r := range []struct {
		record, field int
		e             api.Errno
		line          string
	}{
		{0, 0, 0, "int 1"}, {0, 1, 60, ""}, {0, 2, 35, ""}, {0, 3, 0, "[(<null>, bytes ff)]"}, {0, 4, 0, "()"}, {0, 5, 2, ""}, {0, 6, 2, ""}, {0, -1, 2, ""},
		{1, 0, 2, ""}, {2, 0, 2, ""}, {3, 0, 2, ""}, {4, 0, 2, ""}, // nodes that are no Records
		{5, 0, 0, "<null>"}, {5, 1, 60, ""}, {5, 2, 2, ""}, {5, -1, 2, ""}, {6, 0, 2, ""}, {7, 0, 2, ""}, {8, 0, 2, ""}, {9, 0, 2, ""}, {9, -1, 2, ""}, {10, 0, 2, ""}, {11, 0, 2, ""}, {-1, 0, 2, ""}, {-1, -1, 2, ""},
	} {
		at := r.record
		kind := 0
		if at >= 0 && at < len(s.Nodes) {
			kind = s.Nodes[at].Kind
		}
		if v, e := checkField(t, s, at, r.field); e != r.e || line(v) != r.line {
			t.Errorf("Field of %d (of kind %d), %d = %s, %d, not %s, %d", at, kind, r.field, line(v), e, r.line, r.e)
		}
		if _, e := dflt.Field(s, at, r.field); e != r.e {
			t.Errorf("Field of %d (of kind %d), %d = %d, not %d", at, kind, r.field, e, r.e)
		}
	}
	if e := checkFields(t, s); e != 35 {
		t.Errorf("Check = %d", e)
	}
	checkNoFields(t, s)
	for schema := range kinds() {
		checkNoFields(t, of(schema))
	}
}
