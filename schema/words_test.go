package schema_test

import (
	"cmp"
	"fmt"
	"math"
	"reflect"
	"regexp"
	"slices"
	"strings"
	"testing"
	"unsafe"

	"avocet/api"
	"avocet/jprint"
	"avocet/schema"
)

// What chapter 9 says of names, their sizes aside.
var (
	simpleForm = regexp.MustCompile(`\A[A-Za-z_][A-Za-z0-9_]*\z`)
	fullForm   = regexp.MustCompile(`\A[A-Za-z_][A-Za-z0-9_]*([.][A-Za-z_][A-Za-z0-9_]*)*\z`)
)

// kindWords are the words that no node may have as its name.
const kindWords = " null boolean int long float double bytes string record enum array map fixed "

func simple(s string) bool { return len(s) <= 100 && simpleForm.MatchString(s) }

func full(s string) bool { return len(s) <= 100 && fullForm.MatchString(s) }

func named(kind int) bool { return kind == 9 || kind == 10 || kind == 14 }

// has tells the parts that a node of a kind may have, by their names.
func has(kind int) (parts string, ok bool) {
	switch kind {
	case 1, 2, 3, 4, 5, 6, 7, 8:
		return "", true
	case 9:
		return " Name Aliases Fields ", true
	case 10:
		return " Name Aliases Symbols Has Default ", true
	case 11, 12:
		return " Items ", true
	case 13:
		return " Branches ", true
	case 14:
		return " Name Aliases Size ", true
	}
	return "", false
}

// empty tells whether nothing is in a part: a list without elements, or what is zero.
func empty(v reflect.Value) bool {
	if v.Kind() == reflect.Slice {
		return v.Len() == 0
	}
	if v.Kind() == reflect.Struct {
		for _, f := range v.Fields() {
			if !empty(f) {
				return false
			}
		}
		return true
	}
	return v.IsZero()
}

// kids are a node's kids by the chapter's words.
func kids(n api.Node) []int {
	out := []int{}
	switch n.Kind {
	case 9:
		for _, f := range n.Fields {
			out = append(out, f.Type)
		}
	case 11, 12:
		out = append(out, n.Items)
	case 13:
		out = append(out, n.Branches...)
	}
	return out
}

// stands tells whether a schema stands in order, and how deep its deepest node is: what is still to be met waits in a list, the next one last.
func stands(s api.Schema) (deepest int, ok bool) {
	type step struct{ place, deep int }
	wait := []step{{s.Root, 0}}
	met := 0
	for len(wait) > 0 {
		next := wait[len(wait)-1]
		wait = wait[:len(wait)-1]
		if next.place < 0 || next.place >= len(s.Nodes) {
			return 0, false
		}
		n := s.Nodes[next.place]
		if next.place < met && named(n.Kind) {
			continue
		}
		if next.place != met {
			return 0, false
		}
		met++
		deepest = max(deepest, next.deep)
		below := kids(n)
		slices.Reverse(below)
		for _, kid := range below {
			wait = append(wait, step{kid, next.deep + 1})
		}
	}
	return deepest, met == len(s.Nodes) && s.Root == 0
}

// weights are what all nodes of a schema that stands in order weigh; far more than MaxParts of one without an end.
func weights(s api.Schema) []int {
	const far = 1 << 40
	out := make([]int, len(s.Nodes))
	// Each round counts parts that stand one deeper: what still grows then has no end.
	for range len(s.Nodes) {
		out = rounded(s, out, far)
	}
	for place, more := range rounded(s, out, far) {
		if more > out[place] {
			out[place] = far
		}
	}
	return out
}

// rounded are the weights with parts counted that stand one deeper than in those of before.
func rounded(s api.Schema, was []int, most int) []int {
	out := make([]int, len(s.Nodes))
	for place, n := range s.Nodes {
		out[place] = 1
		for _, f := range n.Fields {
			if n.Kind == 9 {
				out[place] = min(most, out[place]+was[f.Type])
			}
		}
	}
	return out
}

// nodeMay tells whether a node may be, by the chapter's words.
func nodeMay(s api.Schema, n api.Node) bool {
	parts, ok := has(n.Kind)
	v := reflect.ValueOf(n)
	for f, part := range v.Fields() {
		if f.Name != "Kind" && !strings.Contains(parts, " "+f.Name+" ") && !empty(part) {
			return false
		}
	}
	if strings.Contains(parts, "Name") {
		ok = ok && full(n.Name) && !strings.Contains(kindWords, " "+n.Name+" ") && len(n.Aliases) <= 40
		ok = ok && !slices.ContainsFunc(n.Aliases, func(s string) bool { return !full(s) })
	}
	switch n.Kind {
	case 9:
		ok = ok && len(n.Fields) <= 40
		for at, f := range n.Fields {
			ok = ok && simple(f.Name) && len(f.Aliases) <= 40
			ok = ok && !slices.ContainsFunc(f.Aliases, func(s string) bool { return !simple(s) })
			ok = ok && (f.Has && jprint.Right(f.Default) || !f.Has && empty(reflect.ValueOf(f.Default)))
			for _, other := range n.Fields[at+1:] {
				ok = ok && f.Name != other.Name
			}
		}
	case 10:
		ok = ok && len(n.Symbols) >= 1 && len(n.Symbols) <= 40 && (n.Has == slices.Contains(n.Symbols, n.Default)) && (n.Has || n.Default == "")
		for at, s := range n.Symbols {
			ok = ok && simple(s) && slices.Index(n.Symbols, s) == at
		}
	case 13:
		ok = ok && len(n.Branches) >= 1 && len(n.Branches) <= 10
		for at, a := range n.Branches {
			ok = ok && s.Nodes[a].Kind != 13
			for _, b := range n.Branches[at+1:] {
				ok = ok && a != b && (named(s.Nodes[a].Kind) || s.Nodes[a].Kind != s.Nodes[b].Kind)
			}
		}
	case 14:
		ok = ok && 0 <= n.Size && n.Size <= 1000
	}
	return ok
}

// may tells whether a schema may be, by the words of P10.2.
func may(s api.Schema) bool {
	deepest, ok := stands(s)
	if !ok || len(s.Nodes) > 200 || deepest > 32 {
		return false
	}
	weigh := weights(s)
	for at, n := range s.Nodes {
		if !nodeMay(s, n) || weigh[at] > 1000 {
			return false
		}
		for _, other := range s.Nodes[at+1:] {
			if named(n.Kind) && named(other.Kind) && n.Name == other.Name {
				return false
			}
		}
	}
	return true
}

// twin is a value alike, of memory of its own, in which each list has spare room that holds odd things.
func twin[T any](x T) T { return grown(reflect.ValueOf(x)).Interface().(T) }

func grown(v reflect.Value) reflect.Value {
	out := reflect.New(v.Type()).Elem()
	switch v.Kind() {
	case reflect.Struct:
		for at := range v.NumField() {
			out.Field(at).Set(grown(v.Field(at)))
		}
	case reflect.Slice:
		size := v.Len()
		out.Set(reflect.MakeSlice(v.Type(), size+2, size+2))
		for at := range size {
			out.Index(at).Set(grown(v.Index(at)))
		}
		odd(out.Index(size))
		odd(out.Index(size + 1))
		out.SetLen(size)
	default:
		out.Set(v)
	}
	return out
}

// odd lays odd things into a part.
func odd(v reflect.Value) {
	switch v.Kind() {
	case reflect.Struct:
		for at := range v.NumField() {
			odd(v.Field(at))
		}
	case reflect.Int, reflect.Int64:
		v.SetInt(1)
	case reflect.String:
		v.SetString("odd")
	case reflect.Bool:
		v.SetBool(true)
	}
}

// equal tells whether two values are alike in all; a list without elements is as one that is nil (rule 3). Room tells that lists' spare room is held against each other too.
func equal(a, b reflect.Value, room bool) bool {
	switch a.Kind() {
	case reflect.Struct:
		for at := range a.NumField() {
			if !equal(a.Field(at), b.Field(at), room) {
				return false
			}
		}
		return true
	case reflect.Slice:
		if a.Len() != b.Len() || room && a.Cap() != b.Cap() {
			return false
		}
		if room {
			a, b = a.Slice(0, a.Cap()), b.Slice(0, b.Cap())
		}
		for at := range a.Len() {
			if !equal(a.Index(at), b.Index(at), room) {
				return false
			}
		}
		return true
	}
	return a.Equal(b)
}

// alike tells whether two schemas are alike in all.
func alike(a, b api.Schema) bool { return equal(reflect.ValueOf(a), reflect.ValueOf(b), false) }

// untouched tells whether a twin is as another one, its lists' spare room too.
func untouched(a, b api.Schema) bool { return equal(reflect.ValueOf(a), reflect.ValueOf(b), true) }

// block is memory: a list's, with its spare room, or a text's; and whose it is.
type block struct {
	from, to uintptr
	text     bool
	whose    int
}

// blocks are all lists and texts in a value that have any memory.
func blocks(v reflect.Value) []block {
	var out []block
	switch v.Kind() {
	case reflect.Struct:
		for at := range v.NumField() {
			out = append(out, blocks(v.Field(at))...)
		}
	case reflect.Slice:
		if v.Cap() > 0 {
			from := v.Pointer()
			out = append(out, block{from: from, to: from + uintptr(v.Cap())*v.Type().Elem().Size()})
		}
		for at := range v.Len() {
			out = append(out, blocks(v.Index(at))...)
		}
	case reflect.String:
		if s := v.String(); s != "" {
			from := uintptr(unsafe.Pointer(unsafe.StringData(s)))
			out = append(out, block{from: from, to: from + uintptr(len(s)), text: true})
		}
	}
	return out
}

// shared tells whether a copy has memory of what it was copied from, or two of its lists the same.
func shared(made, from api.Schema) bool {
	all := blocks(reflect.ValueOf(from))
	for at, own := range blocks(reflect.ValueOf(made)) {
		// Its texts are not held against each other.
		own.whose = at + 1
		if own.text {
			own.whose = -1
		}
		all = append(all, own)
	}
	slices.SortFunc(all, func(a, b block) int { return cmp.Compare(a.from, b.from) })
	for at, a := range all {
		for _, b := range all[at+1:] {
			if b.from >= a.to {
				break
			}
			if a.whose != b.whose {
				return true
			}
		}
	}
	return false
}

// said tells a schema in a line that is not too long.
func said(s api.Schema) string { return fmt.Sprintf("%.400s", fmt.Sprintf("%+v", s)) }

// random tells numbers that hang on no rule; the same each time.
func random(seed uint64) func(below int) int {
	return func(below int) int {
		seed += 0x9e3779b97f4a7c15
		x := seed
		x = (x ^ x>>30) * 0xbf58476d1ce4e5b9
		x = (x ^ x>>27) * 0x94d049bb133111eb
		return int((x ^ x>>31) % uint64(below))
	}
}

// a is a name of so many bytes.
func a(size int) string { return strings.Repeat("a", size) }

// shape lays a node, and all below it, behind a schema's nodes, and tells its place.
type shape func(s *api.Schema) int

// leaf is a node without kids.
func leaf(n api.Node) shape {
	return func(s *api.Schema) int {
		s.Nodes = append(s.Nodes, n)
		return len(s.Nodes) - 1
	}
}

func kind(kind int) shape { return leaf(api.Node{Kind: kind}) }

func enum(name string) shape {
	return leaf(api.Node{Kind: api.Enum, Name: name, Symbols: []string{"A"}})
}

func fixed(name string) shape { return leaf(api.Node{Kind: api.Fixed, Name: name, Size: 1}) }

// at is the node of a place, once more.
func at(place int) shape { return func(*api.Schema) int { return place } }

func list(of shape) shape {
	return func(s *api.Schema) int {
		place := kind(api.Array)(s)
		items := of(s)
		s.Nodes[place].Items = items
		return place
	}
}

func dict(of shape) shape {
	return func(s *api.Schema) int {
		place := list(of)(s)
		s.Nodes[place].Kind = api.Map
		return place
	}
}

func union(of ...shape) shape {
	return func(s *api.Schema) int {
		place := kind(api.Union)(s)
		for _, one := range of {
			branch := one(s)
			s.Nodes[place].Branches = append(s.Nodes[place].Branches, branch)
		}
		return place
	}
}

// record is a Record of fields of those types, with the names f0, f1 and so on.
func record(name string, of ...shape) shape {
	return func(s *api.Schema) int {
		place := leaf(api.Node{Kind: api.Record, Name: name})(s)
		for n, one := range of {
			f := api.Field{Name: fmt.Sprint("f", n)}
			f.Type = one(s)
			s.Nodes[place].Fields = append(s.Nodes[place].Fields, f)
		}
		return place
	}
}

// lay is the schema of a shape.
func lay(root shape) api.Schema {
	var s api.Schema
	s.Root = root(&s)
	return s
}

// times is a shape so many times.
func times(n int, one shape) []shape { return slices.Repeat([]shape{one}, n) }

// within is a shape in so many Arrays.
func within(n int, one shape) shape {
	for range n {
		one = list(one)
	}
	return one
}

// with is a schema alike that was changed.
func with(s api.Schema, change func(s *api.Schema)) api.Schema {
	s = twin(s)
	change(&s)
	return s
}

// first is a schema of one node.
func first(n api.Node) api.Schema { return api.Schema{Nodes: []api.Node{n}} }

// checkWeights holds Weight of each place, and of what is none, against the chapter's words.
func checkWeights(t *testing.T, s api.Schema) {
	t.Helper()
	deepest, ok := stands(s)
	want := make([]int, len(s.Nodes))
	if ok && len(s.Nodes) <= 200 && deepest <= 32 {
		want = weights(s)
	}
	for at := range s.Nodes {
		if got := schema.Weight(s, at); got != min(want[at], 1001) {
			t.Fatalf("Weight(%s, %d) = %d, not %d", said(s), at, got, min(want[at], 1001))
		}
	}
	for _, at := range []int{-1, -2, math.MinInt, len(s.Nodes), len(s.Nodes) + 1, 200, 1 << 32, math.MaxInt} {
		if at < 0 || at >= len(s.Nodes) {
			if got := schema.Weight(s, at); got != 0 {
				t.Fatalf("Weight(%s, %d), where no node is, = %d", said(s), at, got)
			}
		}
	}
}

// checkFind holds Find of the names of all nodes, and of others, against the chapter's words.
func checkFind(t *testing.T, s api.Schema, names ...string) {
	t.Helper()
	for _, n := range s.Nodes {
		names = append(names, n.Name)
	}
	for _, name := range append(names, "", "null", "no.such.name") {
		want := -1
		for at := len(s.Nodes) - 1; at >= 0; at-- {
			if named(s.Nodes[at].Kind) && s.Nodes[at].Name == name {
				want = at
			}
		}
		if got := schema.Find(s, name); got != want {
			t.Fatalf("Find(%s, %q) = %d, not %d", said(s), name, got, want)
		}
	}
}

// checkCopy holds Copy against the chapter's words.
func checkCopy(t *testing.T, s api.Schema) {
	t.Helper()
	made := schema.Copy(s)
	if !alike(made, s) || !schema.Same(made, s) || !schema.Same(s, made) {
		t.Fatalf("Copy(%s) = %s", said(s), said(made))
	}
	if shared(made, s) {
		t.Fatalf("Copy(%s) has memory of what it was copied from, or one list's twice", said(s))
	}
}

// checkFollows holds a schema that may be against what follows, P10.4.
func checkFollows(t *testing.T, s api.Schema) {
	t.Helper()
	kid := make([]bool, len(s.Nodes))
	for at, n := range s.Nodes {
		for _, place := range schema.Kids(n) {
			if place < 0 || place >= len(s.Nodes) {
				t.Fatalf("%s may be, but the kid %d of %d is no node", said(s), place, at)
			}
			kid[place] = true
		}
		if schema.Named(n.Kind) && schema.Find(s, n.Name) != at {
			t.Fatalf("%s may be, but the node %d is not found by its name", said(s), at)
		}
	}
	if place := slices.Index(kid[1:], false); place >= 0 {
		t.Fatalf("%s may be, but the node %d is no kid", said(s), place+1)
	}
}

// check holds all calls of a schema against the chapter's words, and tells whether it may be.
func check(t *testing.T, s api.Schema) bool {
	t.Helper()
	s = twin(s)
	was := twin(s)
	right := schema.Right(s)
	if right != may(s) {
		t.Fatalf("Right(%s) is %v", said(s), right)
	}
	for _, n := range s.Nodes {
		if got := schema.Kids(n); !slices.Equal(got, kids(n)) {
			t.Fatalf("Kids(%+v) = %v", n, got)
		}
	}
	checkWeights(t, s)
	checkFind(t, s)
	checkCopy(t, s)
	if right {
		checkFollows(t, s)
	}
	if !untouched(s, was) {
		t.Fatalf("%s was changed", said(was))
	}
	return right
}

// checkRight holds a schema against the chapter's words, and whether it may be against what is wanted.
func checkRight(t *testing.T, s api.Schema, want bool) {
	t.Helper()
	if got := check(t, s); got != want {
		t.Fatalf("%s may be: %v", said(s), got)
	}
}

// checkNode holds a node without kids as checkRight does: alone, and at each place where others have it.
func checkNode(t *testing.T, n api.Node, want bool) {
	t.Helper()
	one := leaf(n)
	null, text := kind(api.Null), kind(api.String)
	for _, root := range []shape{
		one, list(one), dict(one), within(31, one), union(one), record("other", one), record("other", one, null), record("other", null, one, text),
		record("other", null, text, one), dict(record("other", union(null, at(1)), union(one))), record("other", record("more.other", one), at(1), list(at(0))),
	} {
		checkRight(t, lay(root), want)
	}
	// What its kind does not have beside it, a union may have too.
	for _, other := range []int{api.Boolean, api.Array, api.Map} {
		if n.Kind != other {
			checkRight(t, lay(union(kind(other), one)), want && other == api.Boolean)
		}
	}
}

// kinds are all kinds, the numbers below and above them, and ones that are far from them.
func allKinds() []int {
	out := []int{math.MinInt, math.MinInt + 9, -1 << 32, -14, -9, -1, 16, 32, 64, 128, 256, 256 + 9, 1<<32 + 9, 1<<32 + 10, 1<<32 + 14, 1 << 62, math.MaxInt - 1, math.MaxInt}
	for kind := range 16 {
		out = append(out, kind)
	}
	return out
}
