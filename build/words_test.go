package build_test

import (
	"cmp"
	"fmt"
	"reflect"
	"regexp"
	"slices"
	"strings"
	"testing"
	"unsafe"

	"avocet/api"
	"avocet/build"
	"avocet/jparse"
	"avocet/jprint"
	"avocet/schema"
)

// What chapter 9 says of names, their sizes aside.
var (
	simpleForm = regexp.MustCompile(`\A[A-Za-z_][A-Za-z0-9_]*\z`)
	fullForm   = regexp.MustCompile(`\A[A-Za-z_][A-Za-z0-9_]*([.][A-Za-z_][A-Za-z0-9_]*)*\z`)
)

func simple(s string) bool { return len(s) <= 100 && simpleForm.MatchString(s) }

func full(s string) bool { return len(s) <= 100 && fullForm.MatchString(s) }

// words are all kinds' words; those of the kinds from Null to String are the first eight.
var words = []string{"null", "boolean", "int", "long", "float", "double", "bytes", "string", "record", "enum", "array", "map", "fixed"}

// join is what chapter 9 says of a name in a space; nothing, if it is none.
func join(space, name string) string {
	if !strings.Contains(name, ".") && space != "" {
		if !simple(name) {
			return ""
		}
		name = space + "." + name
	}
	if !full(name) {
		return ""
	}
	return name
}

// spaceOf is what stands ahead of the last dot.
func spaceOf(full string) string {
	parts := strings.Split(full, ".")
	return strings.Join(parts[:len(parts)-1], ".")
}

// must ends what a book makes, if something does not hold.
func must(holds bool, e api.Errno) {
	if !holds {
		panic(e)
	}
}

// book makes nodes by the chapter's words, and keeps where those of names are.
type book struct {
	nodes  []api.Node
	places map[string]int
}

// worded is what the chapter's words say of a tree.
func worded(j api.Json) (s api.Schema, e api.Errno) {
	if !jprint.Right(j) {
		return s, 2
	}
	defer func() {
		switch told := recover().(type) {
		case nil:
		case api.Errno:
			s, e = api.Schema{}, told
		default:
			panic(told)
		}
	}()
	b := &book{places: map[string]int{}}
	b.tree(j, "")
	s = api.Schema{Nodes: b.nodes}
	for _, weight := range weights(s) {
		must(weight <= 1000, 3)
	}
	return s, 0
}

// new makes the next node.
func (b *book) new(n api.Node) int {
	must(len(b.nodes)+1 <= 200, 3)
	b.nodes = append(b.nodes, n)
	if n.Name != "" {
		b.places[n.Name] = len(b.nodes) - 1
	}
	return len(b.nodes) - 1
}

// parts are an object's items by their keys.
func parts(j api.Json) map[string]api.Json {
	out := map[string]api.Json{}
	for at, key := range j.Keys {
		out[key] = j.Items[at]
	}
	return out
}

func (b *book) tree(j api.Json, space string) int {
	p := parts(j)
	switch j.Kind {
	case 4:
		return b.word(j.Text, space)
	case 5:
		return b.union(j.Items, space)
	case 6:
		word := p["type"]
		must(word.Kind == 4, 30)
		switch word.Text {
		case "array":
			return b.of(11, p["items"], space)
		case "map":
			return b.of(12, p["values"], space)
		case "record":
			return b.record(b.named(9, p, space), p["fields"])
		case "enum":
			return b.new(symbols(b.named(10, p, space), p))
		case "fixed":
			n := b.named(14, p, space)
			must(p["size"].Kind == 3, 30)
			must(p["size"].Int >= 0 && p["size"].Int <= 1000, 3)
			n.Size = int(p["size"].Int)
			return b.new(n)
		}
		return b.word(word.Text, space)
	}
	panic(api.Errno(30))
}

func (b *book) word(s, space string) int {
	if kind := slices.Index(words[:8], s); kind >= 0 {
		return b.new(api.Node{Kind: kind + 1})
	}
	name := join(space, s)
	must(name != "", 31)
	place, ok := b.places[name]
	must(ok, 33)
	return place
}

func (b *book) union(items []api.Json, space string) int {
	must(len(items) >= 1 && len(items) <= 10, 34)
	at := b.new(api.Node{Kind: 13})
	kinds := map[int]bool{13: true}
	for _, item := range items {
		branch := b.tree(item, space)
		must(!slices.Contains(b.nodes[at].Branches, branch), 34)
		if kind := b.nodes[branch].Kind; kind != 9 && kind != 10 && kind != 14 {
			must(!kinds[kind], 34)
			kinds[kind] = true
		}
		b.nodes[at].Branches = append(b.nodes[at].Branches, branch)
	}
	return at
}

func (b *book) of(kind int, of api.Json, space string) int {
	must(of.Kind != 0, 30)
	at := b.new(api.Node{Kind: kind})
	place := b.tree(of, space)
	b.nodes[at].Items = place
	return at
}

func (b *book) named(kind int, p map[string]api.Json, around string) api.Node {
	name, space := p["name"], p["namespace"]
	must(name.Kind == 4, 30)
	must(space.Kind == 4 || space.Kind == 0, 30)
	if space.Kind == 4 {
		around = space.Text
	}
	called := join(around, name.Text)
	must(called != "" && !slices.Contains(words, called), 31)
	_, known := b.places[called]
	must(!known, 32)
	n := api.Node{Kind: kind, Name: called}
	for _, s := range aliases(p) {
		s = join(spaceOf(called), s)
		must(s != "", 31)
		n.Aliases = append(n.Aliases, s)
	}
	return n
}

// texts are a list's items, which have to be texts.
func texts(list api.Json) []string {
	must(list.Kind == 5, 30)
	out := []string{}
	for _, j := range list.Items {
		must(j.Kind == 4, 30)
		out = append(out, j.Text)
	}
	return out
}

// aliases are other names, if there are any.
func aliases(p map[string]api.Json) []string {
	if p["aliases"].Kind == 0 {
		return nil
	}
	out := texts(p["aliases"])
	must(len(out) <= 40, 3)
	return out
}

func (b *book) record(n api.Node, fields api.Json) int {
	must(fields.Kind == 5, 30)
	must(len(fields.Items) <= 40, 3)
	at := b.new(n)
	for _, j := range fields.Items {
		p := parts(j)
		must(j.Kind == 6 && p["name"].Kind == 4, 30)
		f := api.Field{Name: p["name"].Text, Default: p["default"]}
		must(simple(f.Name), 31)
		for _, other := range b.nodes[at].Fields {
			must(other.Name != f.Name, 36)
		}
		for _, s := range aliases(p) {
			must(simple(s), 31)
			f.Aliases = append(f.Aliases, s)
		}
		must(p["type"].Kind != 0, 30)
		f.Type = b.tree(p["type"], spaceOf(n.Name))
		f.Has = f.Default.Kind != 0
		b.nodes[at].Fields = append(b.nodes[at].Fields, f)
	}
	return at
}

func symbols(n api.Node, p map[string]api.Json) api.Node {
	all := texts(p["symbols"])
	must(len(all) > 0, 30)
	must(len(all) <= 40, 3)
	there := map[string]bool{}
	for _, s := range all {
		must(simple(s), 31)
		must(!there[s], 36)
		there[s] = true
	}
	if chosen := p["default"]; chosen.Kind != 0 {
		must(chosen.Kind == 4, 30)
		must(there[chosen.Text], 35)
		n.Has, n.Default = true, chosen.Text
	}
	n.Symbols = all
	return n
}

// weights are what all nodes weigh; far more than MaxParts of one without an end.
func weights(s api.Schema) []int {
	const far = 1 << 40
	was := make([]int, len(s.Nodes))
	// Each round counts parts that stand one deeper: what still grows at the end has no end.
	for round := range len(s.Nodes) + 1 {
		now := make([]int, len(s.Nodes))
		for at, n := range s.Nodes {
			now[at] = 1
			for _, f := range n.Fields {
				now[at] = min(far, now[at]+was[f.Type])
			}
			if round == len(s.Nodes) && now[at] > was[at] {
				now[at] = far
			}
		}
		was = now
	}
	return was
}

// line tells a schema in a line: its nodes, with other names behind ~, and defaults behind =.
func line(s api.Schema) string {
	out := []string{}
	for _, n := range s.Nodes {
		word := "union"
		if n.Kind != 13 {
			word = append(append([]string{"none"}, words...), "fixed")[n.Kind]
		}
		switch n.Kind {
		case 9, 10, 14:
			word += " " + n.Name + others(n.Aliases)
		case 11, 12:
			word += fmt.Sprint(" ", n.Items)
		}
		for _, f := range n.Fields {
			word += fmt.Sprint(" ", f.Name, others(f.Aliases), ":", f.Type)
			if f.Has {
				b, _ := jprint.Print(f.Default)
				word += "=" + string(b)
			}
		}
		for _, symbol := range n.Symbols {
			word += " " + symbol
		}
		if n.Kind == 10 && n.Has {
			word += " =" + n.Default
		}
		for _, place := range n.Branches {
			word += fmt.Sprint(" ", place)
		}
		if n.Kind == 14 {
			word += fmt.Sprint(" ", n.Size)
		}
		out = append(out, word)
	}
	return strings.Join(out, "; ")
}

func others(names []string) string {
	if len(names) == 0 {
		return ""
	}
	return "~" + strings.Join(names, "~")
}

// tree is the tree of a JSON text.
func tree(text string) api.Json {
	j, e := jparse.Parse([]byte(text))
	if e != api.OK {
		panic(fmt.Sprint(e, " of ", text))
	}
	return j
}

// said tells a tree, by its text if it has one.
func said(j api.Json) string {
	b, e := jprint.Print(j)
	if e != api.OK {
		b = fmt.Appendf(nil, "%+v", j)
	}
	return fmt.Sprintf("%.600s", b)
}

// check holds Build of a tree against the chapter's words, and tells what it answered.
func check(t *testing.T, j api.Json) (api.Schema, api.Errno) {
	t.Helper()
	j = twin(j)
	was := twin(j)
	want, refused := worded(j)
	s, e := build.Build(j)
	if e != refused || !alike(reflect.ValueOf(s), reflect.ValueOf(want)) {
		t.Fatalf("Build(%s) = %s, %d, not %s, %d", said(j), line(s), e, line(want), refused)
	}
	if !untouched(reflect.ValueOf(j), reflect.ValueOf(was)) {
		t.Fatalf("Build(%s) changed what it was handed", said(was))
	}
	if e != api.OK {
		return s, e
	}
	if !schema.Right(s) {
		t.Fatalf("Build(%s) = %s, which may not be", said(j), line(s))
	}
	if shared(s, j) {
		t.Fatalf("Build(%s) has memory of what it was handed, or one list's twice", said(j))
	}
	again, e := build.Build(j)
	if e != api.OK || !alike(reflect.ValueOf(again), reflect.ValueOf(want)) {
		t.Fatalf("Build(%s) = %s, %d, when it is asked again", said(j), line(again), e)
	}
	return s, api.OK
}

// checkRefused holds Build of a tree against the chapter's words, and its refusal against the one that is wanted.
func checkRefused(t *testing.T, j api.Json, want api.Errno) {
	t.Helper()
	if s, e := check(t, j); e != want {
		t.Fatalf("Build(%s) = %s, %d, not %d", said(j), line(s), e, want)
	}
}

// row is a JSON text, and the line of its schema, or why it is refused.
type row struct {
	text string
	line string
	e    api.Errno
}

// checkRows holds Build of each row's text against the chapter's words, and against what stands there.
func checkRows(t *testing.T, rows []row) {
	t.Helper()
	for _, r := range rows {
		s, e := check(t, tree(r.text))
		if e != r.e || line(s) != r.line {
			t.Errorf("Build(%s) = %s, %d, not %s, %d", r.text, line(s), e, r.line, r.e)
		}
	}
}

// twin is a value alike, of memory of its own, in which each list has spare room that holds odd things.
func twin[T any](x T) T { return grown(reflect.ValueOf(x)).Interface().(T) }

func grown(v reflect.Value) reflect.Value {
	out := reflect.New(v.Type()).Elem()
	switch v.Kind() {
	case reflect.Struct:
		for at := range v.NumField() {
			out.Field(at).Set(grown(v.Field(at)))
		}
	case reflect.Slice:
		size := v.Len()
		out.Set(reflect.MakeSlice(v.Type(), size+2, size+2))
		for at := range size {
			out.Index(at).Set(grown(v.Index(at)))
		}
		odd(out.Index(size))
		odd(out.Index(size + 1))
		out.SetLen(size)
	case reflect.String:
		out.SetString(strings.Clone(v.String()))
	default:
		out.Set(v)
	}
	return out
}

// odd lays odd things into a part.
func odd(v reflect.Value) {
	switch v.Kind() {
	case reflect.Struct:
		for at := range v.NumField() {
			odd(v.Field(at))
		}
	case reflect.Int, reflect.Int64:
		v.SetInt(1)
	case reflect.String:
		v.SetString("odd")
	case reflect.Bool:
		v.SetBool(true)
	}
}

// alike tells whether two values are alike in all; a list without elements is as one that is nil (rule 3).
func alike(a, b reflect.Value) bool { return equal(a, b, false) }

// untouched tells whether a value is as another one, its lists' spare room too.
func untouched(a, b reflect.Value) bool { return equal(a, b, true) }

func equal(a, b reflect.Value, room bool) bool {
	switch a.Kind() {
	case reflect.Struct:
		for at := range a.NumField() {
			if !equal(a.Field(at), b.Field(at), room) {
				return false
			}
		}
		return true
	case reflect.Slice:
		if a.Len() != b.Len() || room && a.Cap() != b.Cap() {
			return false
		}
		if room {
			a, b = a.Slice(0, a.Cap()), b.Slice(0, b.Cap())
		}
		for at := range a.Len() {
			if !equal(a.Index(at), b.Index(at), room) {
				return false
			}
		}
		return true
	}
	return a.Equal(b)
}

// block is memory: a list's, with its spare room, or a text's; and whose it is.
type block struct {
	from, to uintptr
	text     bool
	whose    int
}

// blocks are all lists and texts in a value that have any memory.
func blocks(v reflect.Value) []block {
	var out []block
	switch v.Kind() {
	case reflect.Struct:
		for at := range v.NumField() {
			out = append(out, blocks(v.Field(at))...)
		}
	case reflect.Slice:
		if v.Cap() > 0 {
			from := v.Pointer()
			out = append(out, block{from: from, to: from + uintptr(v.Cap())*v.Type().Elem().Size()})
		}
		for at := range v.Len() {
			out = append(out, blocks(v.Index(at))...)
		}
	case reflect.String:
		if s := v.String(); s != "" {
			from := uintptr(unsafe.Pointer(unsafe.StringData(s)))
			out = append(out, block{from: from, to: from + uintptr(len(s)), text: true})
		}
	}
	return out
}

// shared tells whether a schema has memory of the tree that it was made of, or two of its lists the same.
func shared(made api.Schema, from api.Json) bool {
	all := blocks(reflect.ValueOf(from))
	for at, own := range blocks(reflect.ValueOf(made)) {
		// Its texts are not held against each other.
		own.whose = at + 1
		if own.text {
			own.whose = -1
		}
		all = append(all, own)
	}
	slices.SortFunc(all, func(a, b block) int { return cmp.Compare(a.from, b.from) })
	for at, a := range all {
		for _, b := range all[at+1:] {
			if b.from >= a.to {
				break
			}
			if a.whose != b.whose {
				return true
			}
		}
	}
	return false
}

// random tells numbers that hang on no rule; the same each time.
func random(seed uint64) func(below int) int {
	return func(below int) int {
		seed += 0x9e3779b97f4a7c15
		x := seed
		x = (x ^ x>>30) * 0xbf58476d1ce4e5b9
		x = (x ^ x>>27) * 0x94d049bb133111eb
		return int((x ^ x>>31) % uint64(below))
	}
}

// a is a name of so many bytes.
func a(size int) string { return strings.Repeat("a", size) }

// text is the tree of a text.
func text(s string) api.Json { return api.Json{Kind: api.JText, Text: s} }

// number is the tree of a number.
func number(n int64) api.Json { return api.Json{Kind: api.JInt, Int: n} }

// list is the tree of a list.
func list(items ...api.Json) api.Json { return api.Json{Kind: api.JList, Items: items} }

// named are the trees of a word behind each of so many numbers' digits.
func named(word string, count int) []api.Json {
	var out []api.Json
	for n := range count {
		out = append(out, text(fmt.Sprint(word, n)))
	}
	return out
}

// with is an object alike, with an item at a key; one that is there is laid anew where it stands.
func with(j api.Json, key string, item api.Json) api.Json {
	out := api.Json{Kind: j.Kind, Items: slices.Clone(j.Items), Keys: slices.Clone(j.Keys)}
	if at := slices.Index(j.Keys, key); at >= 0 {
		out.Items[at] = item
		return out
	}
	out.Items, out.Keys = append(out.Items, item), append(out.Keys, key)
	return out
}

// without is an object alike, without the item at a key.
func without(j api.Json, key string) api.Json {
	at := slices.Index(j.Keys, key)
	if at < 0 {
		return j
	}
	return api.Json{Kind: j.Kind, Items: slices.Concat(j.Items[:at], j.Items[at+1:]), Keys: slices.Concat(j.Keys[:at], j.Keys[at+1:])}
}

// record is the tree of a record of fields of those types, with the names f0, f1 and so on.
func record(name string, of ...api.Json) api.Json {
	var fields []api.Json
	for n, one := range of {
		fields = append(fields, with(with(tree(`{}`), "type", one), "name", text(fmt.Sprint("f", n))))
	}
	return with(with(tree(`{"type":"record"}`), "name", text(name)), "fields", list(fields...))
}

// times is a tree so many times.
func times(n int, j api.Json) []api.Json { return slices.Repeat([]api.Json{j}, n) }

// behind is the tree of a record root in which a tree stands behind so many nodes, all in it that are made ahead.
func behind(nodes int, j api.Json) api.Json {
	var of []api.Json
	for left := nodes - 1; left > 0; {
		size := min(left, 40)
		of = append(of, record(fmt.Sprint("ahead", len(of)), times(size-1, text("null"))...))
		left -= size
	}
	return record("root", append(of, j)...)
}
