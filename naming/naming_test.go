package naming_test

import (
	"math"
	"regexp"
	"slices"
	"strings"
	"testing"
	"unicode"
	"unsafe"

	"avocet/api"
	"avocet/naming"
)

// What the chapter's words say of names, their sizes aside.
var (
	simpleForm = regexp.MustCompile(`\A[A-Za-z_][A-Za-z0-9_]*\z`)
	fullForm   = regexp.MustCompile(`\A[A-Za-z_][A-Za-z0-9_]*([.][A-Za-z_][A-Za-z0-9_]*)*\z`)
)

func simple(s string) bool { return len(s) <= 100 && simpleForm.MatchString(s) }

func full(s string) bool { return len(s) <= 100 && fullForm.MatchString(s) }

// cut is what P9.2 says: all ahead of the last part, and that.
func cut(s string) (space, last string) {
	parts := strings.Split(s, ".")
	end := len(parts) - 1
	return strings.Join(parts[:end], "."), parts[end]
}

// join is what P9.3 says, word by word.
func join(space, name string) (string, bool) {
	made := ""
	switch {
	case strings.ContainsRune(name, '.'):
		made = name
	case simple(name) && len(space) == 0:
		made = name
	case simple(name):
		made = strings.Join([]string{space, name}, ".")
	}
	if !full(made) {
		return "", false
	}
	return made, true
}

// said tells a text in a line that is not too long.
func said(s string) string {
	if len(s) > 120 {
		return s[:60] + ".." + s[len(s)-40:]
	}
	return s
}

// a is a name of so many bytes.
func a(size int) string { return strings.Repeat("a", size) }

// dotted is a full name of just so many bytes, with as many dots as it can have: a.a.a, or aa.a.a.
func dotted(size int) string {
	return a(2-size%2) + strings.Repeat(".a", (size-1)/2)
}

// holdsNames asks all that P9.1 says of a text.
func holdsNames(t *testing.T, s string) {
	t.Helper()
	if got, want := naming.Simple(s), simple(s); got != want {
		t.Fatalf("Simple(%q) = %t, of %d bytes", said(s), got, len(s))
	}
	if got, want := naming.Full(s), full(s); got != want {
		t.Fatalf("Full(%q) = %t, of %d bytes", said(s), got, len(s))
	}
}

// holdsParts asks all that P9.2 says of a text, and of P9.6 if it is a full name.
func holdsParts(t *testing.T, s string) {
	t.Helper()
	space, last := cut(s)
	if got := naming.Space(s); got != space {
		t.Fatalf("Space(%q) = %q, not %q", said(s), said(got), said(space))
	}
	if got := naming.Last(s); got != last {
		t.Fatalf("Last(%q) = %q, not %q", said(s), said(got), said(last))
	}
	if !naming.Full(s) {
		return
	}
	if got, ok := naming.Join(space, last); !ok || got != s {
		t.Fatalf("Join(%q, %q) = %q, %t", space, last, got, ok)
	}
	if !naming.Simple(last) || space != "" && !naming.Full(space) {
		t.Fatalf("%q is a full name, but not its parts %q and %q", s, space, last)
	}
}

// holdsJoin asks all that P9.3 says of two texts.
func holdsJoin(t *testing.T, space, name string) {
	t.Helper()
	want, may := join(space, name)
	if got, ok := naming.Join(space, name); got != want || ok != may {
		t.Fatalf("Join(%q, %q) = %q, %t, not %q, %t", said(space), said(name), said(got), ok, said(want), may)
	}
}

// short are all texts of up to so many parts of those.
func short(parts []string, most int) []string {
	out := []string{""}
	for from := 0; most > 0; most-- {
		end := len(out)
		for _, s := range out[from:end] {
			for _, part := range parts {
				out = append(out, s+part)
			}
		}
		from = end
	}
	return out
}

// odd are parts of texts: what names are of, what stands next to that among the bytes, and what is more than one byte.
func odd() []string {
	return []string{"A", "Z", "a", "z", "_", "0", "9", ".", "@", "[", "^", "`", "{", "/", ":", "-", " ", "\n", "\x00", "\x80", "\xff", "ä", "\u212a", "٣"}
}

// sizes are names, simple and full ones, and what is next to them, at MaxName bytes and on either side of it.
func sizes() []string {
	var out []string
	for size := 95; size <= 105; size++ {
		out = append(out, a(size), strings.Repeat("_", size), "_"+strings.Repeat("9", size-1), strings.Repeat("9", size), dotted(size))
		out = append(out, "."+a(size-1), a(size-1)+".", "0"+a(size-1), a(size-1)+"-", a(size-2)+"ä", strings.Repeat(".", size), dotted(size-2)+"..", dotted(size-2)+".0")
		for place := 1; place < size-1; place++ {
			out = append(out, a(place)+"."+a(size-place-1))
		}
	}
	return append(out, a(1000), dotted(1000), a(1<<20), dotted(1<<20), strings.Repeat(".", 1<<20), a(100)+"."+a(1<<20), a(1<<20)+"."+a(100))
}

// The example.
func TestExample(t *testing.T) {
	if got, ok := naming.Join("a.b", "c"); got != "a.b.c" || !ok {
		t.Errorf("Join(a.b, c) = %q, %t", got, ok)
	}
	if got, ok := naming.Join("a", "x.y"); got != "x.y" || !ok {
		t.Errorf("Join(a, x.y) = %q, %t", got, ok)
	}
	if got := naming.Space("a.b.c"); got != "a.b" {
		t.Errorf("Space(a.b.c) = %q", got)
	}
	if got, ok := naming.Resolve("c", "", true, "a"); got != "c" || !ok {
		t.Errorf("Resolve(c, nothing, true, a) = %q, %t", got, ok)
	}
}

// P9.1, names as they are written, and what is none.
func TestNamesThatAreGiven(t *testing.T) {
	rows := []struct {
		s            string
		simple, full bool
	}{
		{"a", true, true}, {"Z", true, true}, {"_", true, true}, {"__", true, true}, {"a0", true, true}, {"_9", true, true},
		{"Foo_Bar2", true, true}, {"null", true, true}, {"union", true, true},
		{"", false, false}, {"0", false, false}, {"9a", false, false}, {"-a", false, false}, {"a-b", false, false}, {"a b", false, false},
		{" a", false, false}, {"a ", false, false}, {"a\n", false, false}, {"a\x00", false, false}, {"ä", false, false}, {"aä", false, false},
		{"a.b", false, true}, {"a.b.c", false, true}, {"_._", false, true}, {"org.apache.Avro_1", false, true}, {"a.int", false, true},
		{".", false, false}, {"..", false, false}, {".a", false, false}, {"a.", false, false}, {"a..b", false, false}, {".a.b", false, false},
		{"a.b.", false, false}, {"a.0", false, false}, {"0.a", false, false}, {"a.1b.c", false, false}, {"a.b c", false, false}, {"a.ä", false, false},
		{"a. b", false, false}, {"a/b", false, false}, {"a:b", false, false}, {"a$b", false, false},
	}
	for _, row := range rows {
		if got := naming.Simple(row.s); got != row.simple {
			t.Errorf("Simple(%q) = %t", row.s, got)
		}
		if got := naming.Full(row.s); got != row.full {
			t.Errorf("Full(%q) = %t", row.s, got)
		}
	}
}

// P9.1, each byte alone, and next to what names are of.
func TestEachByteOfAName(t *testing.T) {
	begins, goesOn := 0, 0
	for x := range 256 {
		one := string([]byte{byte(x)})
		letter := x >= 65 && x <= 90 || x >= 97 && x <= 122 || x == 95
		digit := x >= 48 && x <= 57
		if naming.Simple(one) != letter || naming.Full(one) != letter {
			t.Errorf("the byte %d as a name: %t, %t", x, naming.Simple(one), naming.Full(one))
		}
		if naming.Simple("a"+one) != (letter || digit) || naming.Full("a"+one) != (letter || digit) {
			t.Errorf("the byte %d behind a letter: %t, %t", x, naming.Simple("a"+one), naming.Full("a"+one))
		}
		if naming.Simple("a"+one+"a") != (letter || digit) || naming.Full("a"+one+"a") != (letter || digit || x == 46) {
			t.Errorf("the byte %d between letters: %t, %t", x, naming.Simple("a"+one+"a"), naming.Full("a"+one+"a"))
		}
		if naming.Full("a."+one) != letter || naming.Full(one+".a") != letter || naming.Full("a."+one+".a") != letter {
			t.Errorf("the byte %d as a part: %t, %t, %t", x, naming.Full("a."+one), naming.Full(one+".a"), naming.Full("a."+one+".a"))
		}
		if naming.Simple(one) {
			begins++
		}
		if naming.Simple("a" + one) {
			goesOn++
		}
	}
	if begins != 53 || goesOn != 63 {
		t.Errorf("%d bytes begin a name, and %d go on", begins, goesOn)
	}
}

// P9.1, each byte at each place of names of some sizes.
func TestEachByteAtEachPlace(t *testing.T) {
	for _, size := range []int{1, 2, 3, 7, 99, 100, 101} {
		for place := range size {
			for x := range 256 {
				b := []byte(a(size))
				b[place] = byte(x)
				holdsNames(t, string(b))
			}
		}
	}
}

// P9.1, characters that are letters or digits, but not the chapter's.
func TestCharactersOfMoreBytes(t *testing.T) {
	for c := rune(128); c <= unicode.MaxRune; c++ {
		s := string(c)
		if naming.Simple(s) || naming.Simple("a"+s) || naming.Full(s) || naming.Full("a"+s) || naming.Full("a."+s) {
			t.Fatalf("the character %d is taken for one of a name", c)
		}
	}
}

// P9.1, P9.2, P9.6, all texts of a few parts.
func TestShortTexts(t *testing.T) {
	for _, s := range short(odd(), 3) {
		holdsNames(t, s)
		holdsParts(t, s)
	}
	for _, s := range short([]string{"a", "_", "0", ".", "-"}, 7) {
		holdsNames(t, s)
		holdsParts(t, s)
	}
	for x := range 1 << 16 {
		s := string([]byte{byte(x >> 8), byte(x)})
		holdsNames(t, s)
		holdsParts(t, s)
	}
}

// P9.1, names of just MaxName bytes, and one more.
func TestNamesAtTheLimit(t *testing.T) {
	for size, may := range map[int]bool{1: true, 99: true, 100: true, 101: false, 200: false} {
		if naming.Simple(a(size)) != may || naming.Full(a(size)) != may {
			t.Errorf("a name of %d bytes: %t, %t", size, naming.Simple(a(size)), naming.Full(a(size)))
		}
	}
	for size := 98; size <= 104; size++ {
		many := dotted(size)
		if len(many) != size || strings.Count(many, ".") != (size-1)/2 {
			t.Fatalf("%q is no name for this test", many)
		}
		if naming.Full(many) != (size <= 100) || naming.Simple(many) {
			t.Errorf("a full name of %d bytes with many dots: %t, %t", size, naming.Full(many), naming.Simple(many))
		}
		for place := 1; place < size-1; place++ {
			one := a(place) + "." + a(size-place-1)
			if naming.Full(one) != (size <= 100) || naming.Simple(one) {
				t.Errorf("a full name of %d bytes with a dot at %d: %t, %t", size, place, naming.Full(one), naming.Simple(one))
			}
		}
	}
	for _, s := range sizes() {
		holdsNames(t, s)
	}
}

// P9.2, of names and of what is none.
func TestPartsThatAreGiven(t *testing.T) {
	rows := []struct{ s, space, last string }{
		{"", "", ""}, {"a", "", "a"}, {"a.b", "a", "b"}, {"a.b.c", "a.b", "c"}, {"ab.cd.ef", "ab.cd", "ef"},
		{".", "", ""}, {"..", ".", ""}, {"...", "..", ""}, {".a", "", "a"}, {"a.", "a", ""}, {".a.", ".a", ""}, {"a..b", "a.", "b"},
		{"..a", ".", "a"}, {"a..", "a.", ""}, {"0.1", "0", "1"}, {" . ", " ", " "}, {"a-b", "", "a-b"}, {"\xff.\xfe", "\xff", "\xfe"},
		{"ä.ö", "ä", "ö"}, {"a．b", "", "a．b"}, {"a。b", "", "a。b"}, {"a.b\n", "a", "b\n"}, {"\x00.\x00", "\x00", "\x00"},
	}
	for _, row := range rows {
		if got := naming.Space(row.s); got != row.space {
			t.Errorf("Space(%q) = %q", row.s, got)
		}
		if got := naming.Last(row.s); got != row.last {
			t.Errorf("Last(%q) = %q", row.s, got)
		}
	}
}

// P9.2, each byte next to dots: no other one is taken for a dot.
func TestPartsOfEachByte(t *testing.T) {
	for x := range 256 {
		one := string([]byte{byte(x)})
		for _, s := range []string{one, "a" + one, one + "a", "a" + one + "b", "a." + one, one + ".a", "a." + one + "b", "a" + one + ".b", one + "." + one} {
			holdsParts(t, s)
		}
	}
}

// P9.2, of texts of any size.
func TestPartsOfGreatTexts(t *testing.T) {
	for _, s := range sizes() {
		holdsParts(t, s)
	}
}

// P9.3, as it is written.
func TestJoinsThatAreGiven(t *testing.T) {
	rows := []struct {
		space, name, full string
		ok                bool
	}{
		{"", "a", "a", true}, {"a", "b", "a.b", true}, {"a.b", "c", "a.b.c", true}, {"a.b.c", "d_1", "a.b.c.d_1", true}, {"_", "_", "_._", true},
		{"int", "null", "int.null", true}, {"", "int", "int", true},
		// A name with a dot hangs on no space, one that is no full name neither.
		{"", "x.y", "x.y", true}, {"a", "x.y", "x.y", true}, {"a.b", "x.y.z", "x.y.z", true}, {"0", "x.y", "x.y", true}, {".", "x.y", "x.y", true},
		{"a..b", "x.y", "x.y", true}, {" ", "x.y", "x.y", true}, {a(101), "x.y", "x.y", true}, {"\xff", "x.y", "x.y", true},
		// Spaces that are no full names.
		{".", "a", "", false}, {"..", "a", "", false}, {".a", "b", "", false}, {"a.", "b", "", false}, {"a..b", "c", "", false}, {"0", "a", "", false},
		{"a.0", "b", "", false}, {" ", "a", "", false}, {"a ", "b", "", false}, {"a-b", "c", "", false}, {"ä", "a", "", false}, {"\x00", "a", "", false},
		// Names that are none.
		{"", "", "", false}, {"a", "", "", false}, {"a.b", "", "", false}, {"", "0", "", false}, {"a", "0", "", false}, {"", "a b", "", false},
		{"a", "b-c", "", false}, {"", ".", "", false}, {"a", ".", "", false}, {"", "a.", "", false}, {"a", "b.", "", false}, {"", ".a", "", false},
		{"a", ".b", "", false}, {"a", "b..c", "", false}, {"", "a.0", "", false}, {"a", "x.0", "", false}, {"a", "ä", "", false}, {"a", "b\n", "", false},
	}
	for _, row := range rows {
		if got, ok := naming.Join(row.space, row.name); got != row.full || ok != row.ok {
			t.Errorf("Join(%q, %q) = %q, %t", said(row.space), said(row.name), got, ok)
		}
	}
}

// P9.3, all short spaces with all short names.
func TestJoinsOfShortTexts(t *testing.T) {
	for _, space := range short(odd(), 2) {
		for _, name := range short(odd(), 2) {
			holdsJoin(t, space, name)
		}
	}
	texts := short([]string{"a", "0", ".", "-"}, 4)
	for _, space := range texts {
		for _, name := range texts {
			holdsJoin(t, space, name)
		}
	}
}

// P9.3, sums of just MaxName bytes, and one more, however they are cut.
func TestJoinsAtTheLimit(t *testing.T) {
	for sum := 98; sum <= 103; sum++ {
		for size := 1; size < sum-1; size++ {
			name := a(sum - size - 1)
			for _, space := range []string{a(size), dotted(size)} {
				want := ""
				if sum <= 100 {
					want = space + "." + name
				}
				if got, ok := naming.Join(space, name); got != want || ok != (sum <= 100) {
					t.Fatalf("of %d and %d bytes %q, %t", len(space), len(name), got, ok)
				}
			}
		}
	}
	spaces := []string{"", "a", "a.b", ".", "0", a(96), a(97), a(98), a(99), a(100), a(101), dotted(97), dotted(98), dotted(99), dotted(100), dotted(101), a(1 << 20)}
	for _, space := range spaces {
		for _, name := range sizes() {
			holdsJoin(t, space, name)
			holdsJoin(t, name, space)
		}
	}
}

// P9.4, as it is written.
func TestResolvesThatAreGiven(t *testing.T) {
	rows := []struct {
		name, space string
		given       bool
		around      string
		full        string
		ok          bool
	}{
		// A space of its own.
		{"c", "a.b", true, "", "a.b.c", true}, {"c", "a.b", true, "x", "a.b.c", true}, {"c", "", true, "a", "c", true}, {"c", "", true, "", "c", true},
		{"c", "a", true, "0", "a.c", true}, {"c", "0", true, "a", "", false}, {"c", ".", true, "a", "", false}, {"c", "", true, "..", "c", true},
		// None, and so the one around, whatever stands in its place.
		{"c", "", false, "a", "a.c", true}, {"c", "x", false, "a", "a.c", true}, {"c", "x", false, "", "c", true}, {"c", "", false, "", "c", true},
		{"c", "0", false, "a", "a.c", true}, {"c", "a", false, "0", "", false}, {"c", "a", false, ".", "", false}, {"c", "..", false, "", "c", true},
		// A name with a dot.
		{"x.y", "a", true, "b", "x.y", true}, {"x.y", "a", false, "b", "x.y", true}, {"x.y", "", true, "b", "x.y", true}, {"x.y", "0", true, "0", "x.y", true},
		{"x.y", "0", false, "0", "x.y", true}, {"x.", "a", true, "b", "", false}, {".y", "a", false, "b", "", false},
		// Names that are none.
		{"", "a", true, "b", "", false}, {"", "a", false, "b", "", false}, {"0", "a", true, "b", "", false}, {"0", "", false, "", "", false},
		// At the limit.
		{a(98), "b", true, "bb", "b." + a(98), true}, {a(98), "bb", true, "b", "", false}, {a(98), "bb", false, "b", "b." + a(98), true}, {a(98), "b", false, "bb", "", false},
		{a(100), "", true, "b", a(100), true}, {a(100), "b", false, "", a(100), true}, {a(101), "", true, "", "", false},
	}
	for _, row := range rows {
		if got, ok := naming.Resolve(row.name, row.space, row.given, row.around); got != row.full || ok != row.ok {
			t.Errorf("Resolve(%q, %q, %t, %q) = %q, %t", said(row.name), said(row.space), row.given, said(row.around), got, ok)
		}
	}
}

// P9.4, all of a few texts in each place; and P9.6: a full name with a dot is itself, whatever the spaces.
func TestResolvesOfAll(t *testing.T) {
	texts := append(short([]string{"a", "b", "0", "."}, 3), a(96), a(97), a(98), a(99), a(100), a(101), dotted(97), dotted(98), dotted(99), dotted(100), dotted(101), "ä", "a b", "int")
	for _, name := range texts {
		for _, space := range texts {
			for _, around := range texts {
				for _, given := range []bool{false, true} {
					taken := around
					if given {
						taken = space
					}
					want, may := join(taken, name)
					got, ok := naming.Resolve(name, space, given, around)
					if got != want || ok != may {
						t.Fatalf("Resolve(%q, %q, %t, %q) = %q, %t", said(name), said(space), given, said(around), got, ok)
					}
					if full(name) && strings.Contains(name, ".") && (got != name || !ok) {
						t.Fatalf("Resolve(%q, %q, %t, %q) = %q, %t: it hangs on a space", name, said(space), given, said(around), got, ok)
					}
				}
			}
		}
	}
}

// kinds are the words of P9.5, by the kinds of api.
func kinds() map[int]string {
	return map[int]string{
		api.Null: "null", api.Boolean: "boolean", api.Int: "int", api.Long: "long", api.Float: "float", api.Double: "double", api.Bytes: "bytes",
		api.String: "string", api.Record: "record", api.Enum: "enum", api.Array: "array", api.Map: "map", api.Fixed: "fixed",
	}
}

// P9.5, and P9.6: each kind's word has that kind.
func TestWordsOfKinds(t *testing.T) {
	for kind := -1000; kind <= 1000; kind++ {
		word := naming.Word(kind)
		if word != kinds()[kind] {
			t.Errorf("Word(%d) = %q", kind, word)
		}
		want := kind
		if word == "" {
			want = 0
		}
		if got := naming.Kind(word); got != want {
			t.Errorf("Kind(%q) = %d", word, got)
		}
	}
	for _, kind := range []int{0, api.Union, -1, 15, 16, 255, 256, 1 << 31, -1 << 31, math.MinInt, math.MinInt + 1, math.MaxInt, math.MaxInt - 1} {
		if word := naming.Word(kind); word != "" {
			t.Errorf("Word(%d) = %q", kind, word)
		}
	}
	for shift := range 63 {
		for kind, word := range kinds() {
			far := kind + 1<<shift
			if got := naming.Word(far); got != kinds()[far] {
				t.Errorf("Word(%d) = %q, as that of %d is %q", far, got, kind, word)
			}
		}
	}
}

// P9.5, each word, and what is next to it.
func TestKindsOfWords(t *testing.T) {
	for kind, word := range kinds() {
		if got := naming.Kind(word); got != kind {
			t.Errorf("Kind(%q) = %d", word, got)
		}
		others := []string{strings.ToUpper(word), strings.ToUpper(word[:1]) + word[1:], word[:len(word)-1] + strings.ToUpper(word[len(word)-1:]), word + word}
		for x := range 256 {
			one := string([]byte{byte(x)})
			others = append(others, word+one, one+word)
			for place := range len(word) {
				others = append(others, word[:place]+one+word[place+1:])
			}
		}
		for place := range len(word) {
			others = append(others, word[:place], word[place+1:], word[:place]+word[place+1:])
		}
		for _, s := range others {
			if s != word && naming.Kind(s) != 0 {
				t.Errorf("Kind(%q) = %d", s, naming.Kind(s))
			}
		}
	}
}

// P9.5, texts that are no kind's word.
func TestKindsOfOtherTexts(t *testing.T) {
	for _, s := range []string{"", " ", "union", "Union", "error", "error_union", "request", "bool", "int32", "text", "object", "list", "date", "decimal", "\x00", "0", "1", "9", "13", a(100), a(1 << 20)} {
		if kind := naming.Kind(s); kind != 0 {
			t.Errorf("Kind(%q) = %d", said(s), kind)
		}
	}
	words := kinds()
	found := 0
	for _, s := range short([]string{"n", "u", "l", "i", "t", "o", "g", "m", "a", "p"}, 4) {
		kind := naming.Kind(s)
		if kind != 0 {
			found++
		}
		if kind != 0 && words[kind] != s {
			t.Errorf("Kind(%q) = %d", s, kind)
		}
	}
	if found != 4 {
		t.Errorf("%d words found, not null, int, long, map", found)
	}
}

// P9.6, of names that hang on no rule: each full name is the Join of its parts, and these are what names are of.
func TestNamesAsTheirParts(t *testing.T) {
	state := uint64(1)
	next := func(below int) int {
		state = state*6364136223846793005 + 1442695040888963407
		return int((state >> 33) % uint64(below))
	}
	const firsts = "ABYZabyz_"
	const all = firsts + "0189"
	names := 0
	for range 50000 {
		var parts []string
		for range 1 + next(6) {
			part := []byte{firsts[next(len(firsts))]}
			for range next(22) {
				part = append(part, all[next(len(all))])
			}
			parts = append(parts, string(part))
		}
		s := strings.Join(parts, ".")
		holdsNames(t, s)
		holdsParts(t, s)
		if naming.Full(s) {
			names++
		}
		if spoiled := []byte(s); next(2) == 0 {
			spoiled[next(len(s))] = byte(next(256))
			holdsNames(t, string(spoiled))
			holdsParts(t, string(spoiled))
		}
	}
	if names < 10000 {
		t.Errorf("just %d full names came up", names)
	}
}

// shares tells whether two texts lie in the same memory.
func shares(made, given string) bool {
	from, at := uintptr(unsafe.Pointer(unsafe.StringData(given))), uintptr(unsafe.Pointer(unsafe.StringData(made)))
	return made != "" && given != "" && at < from+uintptr(len(given)) && from < at+uintptr(len(made))
}

// Rule 4: what is handed in is not kept, and what is handed out is new memory.
func TestAnswersAreNewMemory(t *testing.T) {
	fresh := func(s string) string { return string(slices.Clone([]byte(s))) }
	long, plain, space := fresh("first.second.third"), fresh("plain"), fresh("some.space")
	if !shares(long[6:], long) || shares(long, fresh(long)) {
		t.Fatal("what shares memory is not told")
	}
	if made := naming.Space(long); shares(made, long) {
		t.Errorf("Space hands out the memory of what it was given")
	}
	if naming.Space(long) != "first.second" || shares(naming.Last(long), long) || shares(naming.Last(plain), plain) {
		t.Errorf("Last hands out the memory of what it was given")
	}
	for _, name := range []string{long, plain} {
		for _, space := range []string{"", space} {
			made, ok := naming.Join(space, name)
			if !ok || shares(made, name) || shares(made, space) {
				t.Errorf("Join(%q, %q) hands out the memory of what it was given", space, name)
			}
			made, ok = naming.Resolve(name, space, true, plain)
			if !ok || shares(made, name) || shares(made, space) {
				t.Errorf("Resolve(%q, %q, true, %q) hands out the memory of what it was given", name, space, plain)
			}
		}
	}
}
