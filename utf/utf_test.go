package utf_test

import (
	"bytes"
	"math"
	"strconv"
	"strings"
	"testing"
	"unicode/utf16"
	"unicode/utf8"

	"avocet/api"
	"avocet/utf"
)

const top = 1114111

// isCharacter is what the chapter calls a character.
func isCharacter(c int32) bool { return c >= 0 && c <= top && (c < 55296 || c > 57343) }

// pattern is how a character's bytes are laid, in the chapter's words: an x takes a binary digit.
func pattern(c int32) string {
	switch {
	case c < 128:
		return "0xxxxxxx"
	case c < 2048:
		return "110xxxxx 10xxxxxx"
	case c < 65536:
		return "1110xxxx 10xxxxxx 10xxxxxx"
	}
	return "11110xxx 10xxxxxx 10xxxxxx 10xxxxxx"
}

// laid is a character's bytes by its pattern, digit by digit.
func laid(c int32) []byte {
	form := []byte(pattern(c))
	digits := strconv.FormatInt(int64(c), 2)
	for i := len(form) - 1; i >= 0; i-- {
		if form[i] != 'x' {
			continue
		}
		form[i] = '0'
		if digits != "" {
			form[i] = digits[len(digits)-1]
			digits = digits[:len(digits)-1]
		}
	}
	if digits != "" {
		panic("digits are left")
	}
	var out []byte
	for _, word := range strings.Fields(string(form)) {
		x, err := strconv.ParseUint(word, 2, 8)
		if err != nil {
			panic(err)
		}
		out = append(out, byte(x))
	}
	return out
}

// book is all characters by their bytes, and all that these begin with and that is less than they are.
type book struct {
	whole map[string]int32
	begun map[string]bool
}

func makeBook() book {
	k := book{whole: map[string]int32{}, begun: map[string]bool{}}
	for c := int32(0); c <= top; c++ {
		if !isCharacter(c) {
			continue
		}
		b := laid(c)
		k.whole[string(b)] = c
		for size := 1; size < len(b); size++ {
			k.begun[string(b[:size])] = true
		}
	}
	return k
}

// wanted is what P3.1 says of bytes that are taken from their beginning on, in its words: the character, how many bytes it has, the error.
func (k book) wanted(b []byte) (int32, int, api.Errno) {
	for size := 1; size <= len(b); size++ {
		if c, ok := k.whole[string(b[:size])]; ok {
			return c, size, api.OK
		}
	}
	if len(b) == 0 || k.begun[string(b)] {
		return 0, 0, api.ErrShort
	}
	return 0, 0, api.ErrForm
}

// count is what P3.3 says of bytes: how many characters they are, and whether they are just such.
func (k book) count(b []byte) (int, bool) {
	count := 0
	for len(b) > 0 {
		_, size, e := k.wanted(b)
		if e != api.OK {
			return 0, false
		}
		b = b[size:]
		count++
	}
	return count, true
}

// check holds Take against what is wanted, and against the bytes that it was handed.
func check(t *testing.T, b []byte, at int, c int32, next int, e api.Errno) {
	t.Helper()
	before := bytes.Clone(b)
	gotC, gotNext, gotE := utf.Take(b, at)
	if gotC != c || gotNext != next || gotE != e {
		t.Fatalf("Take(% x, %d) = %d, %d, %d, not %d, %d, %d", b, at, gotC, gotNext, int(gotE), c, next, int(e))
	}
	if !bytes.Equal(b, before) {
		t.Fatalf("Take changed % x to % x", before, b)
	}
}

// checkWanted holds Take, and Right and Count of the same bytes, against the book, with bytes ahead that are not looked at.
func (k book) checkWanted(t *testing.T, b []byte) {
	t.Helper()
	c, size, e := k.wanted(b)
	check(t, b, 0, c, size, e)
	check(t, append([]byte{0xe2, 0xff}, b...), 2, c, 2+size, e)
	k.checkCount(t, b)
}

func (k book) checkCount(t *testing.T, b []byte) {
	t.Helper()
	before := bytes.Clone(b)
	count, right := k.count(b)
	want := api.OK
	if !right {
		want = api.ErrForm
	}
	if got, e := utf.Count(b); got != count || e != want {
		t.Fatalf("Count(% x) = %d, %d, not %d, %d", b, got, int(e), count, int(want))
	}
	if got := utf.Right(b); got != right {
		t.Fatalf("Right(% x) = %t", b, got)
	}
	if !bytes.Equal(b, before) {
		t.Fatalf("% x was changed to % x", before, b)
	}
}

// turns are the bytes at which something turns, and those beside them.
var turns = []byte{0, 0x41, 0x7f, 0x80, 0x81, 0x8e, 0x8f, 0x90, 0x91, 0x9e, 0x9f, 0xa0, 0xa1, 0xbe, 0xbf, 0xc0, 0xc1, 0xc2, 0xdf, 0xe0, 0xed, 0xef, 0xf0, 0xf4, 0xf5, 0xff}

// P3.1 and P3.2, the examples, and the ends of each size.
func TestGivenCharacters(t *testing.T) {
	rows := []struct {
		c    int32
		want string
	}{
		{0, "\x00"}, {65, "A"}, {127, "\x7f"},
		{128, "\xc2\x80"}, {228, "\xc3\xa4"}, {2047, "\xdf\xbf"},
		{2048, "\xe0\xa0\x80"}, {8364, "\xe2\x82\xac"}, {55295, "\xed\x9f\xbf"}, {57344, "\xee\x80\x80"}, {65533, "\xef\xbf\xbd"}, {65535, "\xef\xbf\xbf"},
		{65536, "\xf0\x90\x80\x80"}, {128512, "\xf0\x9f\x98\x80"}, {1114111, "\xf4\x8f\xbf\xbf"},
	}
	for _, row := range rows {
		if b, e := utf.Put([]byte("x"), row.c); string(b) != "x"+row.want || e != api.OK {
			t.Errorf("Put of %d: % x, %d", row.c, b, int(e))
		}
		check(t, []byte("x"+row.want), 1, row.c, 1+len(row.want), api.OK)
		check(t, []byte(row.want+"\x80"), 0, row.c, len(row.want), api.OK)
	}
}

// P3.1, bytes that are refused, each for a reason that the promise names.
func TestGivenRefusals(t *testing.T) {
	rows := []struct {
		b    string
		want api.Errno
	}{
		{"", api.ErrShort},
		{"\xc2", api.ErrShort}, {"\xdf", api.ErrShort},
		{"\xe0", api.ErrShort}, {"\xe0\xa0", api.ErrShort}, {"\xe2\x82", api.ErrShort}, {"\xed", api.ErrShort}, {"\xed\x9f", api.ErrShort}, {"\xef\xbf", api.ErrShort},
		{"\xf0", api.ErrShort}, {"\xf0\x90", api.ErrShort}, {"\xf0\x90\x80", api.ErrShort}, {"\xf4", api.ErrShort}, {"\xf4\x8f", api.ErrShort}, {"\xf4\x8f\xbf", api.ErrShort},
		// No first byte.
		{"\x80", api.ErrForm}, {"\xbf", api.ErrForm}, {"\xf8", api.ErrForm}, {"\xfe", api.ErrForm}, {"\xff", api.ErrForm}, {"\xf8\x88\x80\x80\x80", api.ErrForm},
		// What follows is no digits.
		{"\xc2A", api.ErrForm}, {"\xc2\xc2", api.ErrForm}, {"\xe2A", api.ErrForm}, {"\xe2\x82A", api.ErrForm}, {"\xe2\x82\xe2", api.ErrForm}, {"\xf0\x90A", api.ErrForm}, {"\xf0\x90\x80A", api.ErrForm}, {"\xf0\x90\x80\xff", api.ErrForm},
		// More bytes than the number needs, also where they end too soon.
		{"\xc0", api.ErrForm}, {"\xc1", api.ErrForm}, {"\xc0\x80", api.ErrForm}, {"\xc1\xbf", api.ErrForm},
		{"\xe0\x80", api.ErrForm}, {"\xe0\x9f", api.ErrForm}, {"\xe0\x80\x80", api.ErrForm}, {"\xe0\x9f\xbf", api.ErrForm},
		{"\xf0\x80", api.ErrForm}, {"\xf0\x8f", api.ErrForm}, {"\xf0\x8f\xbf", api.ErrForm}, {"\xf0\x80\x80\x80", api.ErrForm}, {"\xf0\x8f\xbf\xbf", api.ErrForm},
		// A surrogate's.
		{"\xed\xa0", api.ErrForm}, {"\xed\xbf", api.ErrForm}, {"\xed\xa0\x80", api.ErrForm}, {"\xed\xaf\xbf", api.ErrForm}, {"\xed\xb0\x80", api.ErrForm}, {"\xed\xbf\xbf", api.ErrForm},
		// A number that is too great.
		{"\xf4\x90", api.ErrForm}, {"\xf4\x90\x80", api.ErrForm}, {"\xf4\x90\x80\x80", api.ErrForm}, {"\xf5", api.ErrForm}, {"\xf5\x80\x80\x80", api.ErrForm}, {"\xf7\xbf\xbf\xbf", api.ErrForm},
	}
	for _, row := range rows {
		b := []byte(row.b)
		check(t, b, 0, 0, 0, row.want)
		check(t, append([]byte("ab\xc2"), b...), 3, 0, 3, row.want)
	}
}

// P3.1, places that may not be, ahead of all that the bytes could be refused for; the place behind the last byte may be.
func TestPlaces(t *testing.T) {
	for _, b := range [][]byte{nil, {}, {'a'}, {0xff}, {0xe2}, {0xe2, 0x82, 0xac}, {0xf0, 0x90, 0x80, 0x80, 0x80}} {
		for _, at := range []int{math.MinInt, math.MinInt + 1, -2, -1, len(b) + 1, len(b) + 2, math.MaxInt} {
			check(t, b, at, 0, at, api.ErrArg)
		}
		check(t, b, len(b), 0, len(b), api.ErrShort)
	}
	// Within a character's bytes there is none.
	check(t, []byte("\xe2\x82\xac"), 1, 0, 1, api.ErrForm)
	check(t, []byte("\xe2\x82\xac"), 2, 0, 2, api.ErrForm)
}

// What lies behind a list's length is not read (rule 8).
func TestSpareRoomIsNotRead(t *testing.T) {
	for _, text := range []string{"\xc3\xa4", "\xe2\x82\xac", "\xf0\x9f\x98\x80"} {
		for size := range len(text) {
			b := []byte(text)[:size]
			check(t, b, 0, 0, 0, api.ErrShort)
			if size == 0 {
				continue
			}
			if n, e := utf.Count(b); n != 0 || e != api.ErrForm || utf.Right(b) {
				t.Errorf("Count(% x) = %d, %d, Right %t", b, n, int(e), utf.Right(b))
			}
		}
	}
}

// P3.1, P3.2 and P3.5, each character: its bytes are those of its pattern, it is taken again, and all that they begin with ends too soon.
func TestEachCharacter(t *testing.T) {
	for c := int32(0); c <= top; c++ {
		if !isCharacter(c) {
			continue
		}
		want := laid(c)
		if string(want) != string(rune(c)) {
			t.Fatalf("the pattern of %d is % x, the library's bytes are % x", c, want, string(rune(c)))
		}
		b, e := utf.Put(nil, c)
		if e != api.OK || !bytes.Equal(b, want) {
			t.Fatalf("Put(nil, %d) = % x, %d, not % x", c, b, int(e), want)
		}
		check(t, b, 0, c, len(b), api.OK)
		for size := range b {
			check(t, b[:size], 0, 0, 0, api.ErrShort)
		}
	}
}

// P3.1, P3.3, of all one and two bytes, and of more at which something turns.
func TestManyBytes(t *testing.T) {
	k := makeBook()
	k.checkWanted(t, nil)
	for x := range 256 {
		k.checkWanted(t, []byte{byte(x)})
		for y := range 256 {
			k.checkWanted(t, []byte{byte(x), byte(y)})
		}
	}
	for x := 0xb0; x < 256; x++ {
		for y := 0x70; y < 0xd0; y++ {
			for _, z := range turns {
				k.checkWanted(t, []byte{byte(x), byte(y), z})
			}
		}
	}
	for x := 0xe0; x < 256; x++ {
		for _, y := range turns {
			for _, z := range turns {
				for _, last := range turns {
					k.checkWanted(t, []byte{byte(x), y, z, last})
				}
			}
		}
	}
}

// P3.1, P3.3, of bytes that hang on no rule, most of them ones that stand in characters of several.
func TestAnyBytes(t *testing.T) {
	k := makeBook()
	state := uint64(5)
	right := 0
	for range 100000 {
		var b []byte
		for range 6 {
			state = state*6364136223846793005 + 1442695040888963407
			b, _ = utf.Put(b, int32(state>>40)>>(state>>60))
		}
		state = state*6364136223846793005 + 1442695040888963407
		if len(b) > 0 && state>>63 == 0 {
			b[int(state>>40)%len(b)] ^= byte(1) << (state >> 60)
		}
		k.checkWanted(t, b)
		if utf.Right(b) {
			right++
		}
		if utf.Right(b) != utf8.Valid(b) {
			t.Fatalf("Right(% x) = %t, and the library has it otherwise", b, utf.Right(b))
		}
		if n, e := utf.Count(b); e == api.OK && n != utf8.RuneCount(b) {
			t.Fatalf("Count(% x) = %d, the library's is %d", b, n, utf8.RuneCount(b))
		}
	}
	if right < 10000 || right > 90000 {
		t.Fatalf("%d were right", right)
	}
}

// P3.2, numbers that are no characters: b alone, and neither it nor its spare room is changed.
func TestPutOfNoCharacter(t *testing.T) {
	numbers := []int32{math.MinInt32, math.MinInt32 + 1, -1114111, -65536, -128, -2, -1, top + 1, top + 2, 1 << 21, 1 << 24, 1<<30 + 65, math.MaxInt32 - 1, math.MaxInt32}
	for c := int32(55296); c <= 57343; c++ {
		numbers = append(numbers, c)
	}
	for _, c := range numbers {
		if b, e := utf.Put(nil, c); len(b) != 0 || e != api.ErrArg {
			t.Fatalf("Put(nil, %d) = % x, %d", c, b, int(e))
		}
		b := []byte{0xff, 0, 0x80, 7, 7, 7, 7, 7}
		got, e := utf.Put(b[:3], c)
		if !bytes.Equal(got, []byte{0xff, 0, 0x80}) || e != api.ErrArg {
			t.Fatalf("Put of %d behind ff 00 80 is % x, %d", c, got, int(e))
		}
		if !bytes.Equal(b, []byte{0xff, 0, 0x80, 7, 7, 7, 7, 7}) {
			t.Fatalf("Put of %d changed what it was handed: % x", c, b)
		}
	}
}

// P3.2, the bytes that are there stay as they are, with spare room or without, whatever they are.
func TestPutStandsBehind(t *testing.T) {
	for _, c := range []int32{0, 65, 127, 128, 2047, 2048, 8364, 65535, 65536, top} {
		for _, room := range []int{0, 1, 2, 3, 4, 20} {
			b := append(make([]byte, 0, 3+room), 0xff, 0, 0xe2)
			got, e := utf.Put(b, c)
			if want := append([]byte{0xff, 0, 0xe2}, laid(c)...); e != api.OK || !bytes.Equal(got, want) {
				t.Errorf("Put of %d with room for %d: % x, %d, not % x", c, room, got, int(e), want)
			}
			if !bytes.Equal(b, []byte{0xff, 0, 0xe2}) {
				t.Errorf("Put of %d with room for %d changed what it was handed: % x", c, room, b)
			}
		}
	}
}

// P3.3, texts, and what is none.
func TestRightAndCountOfGivenTexts(t *testing.T) {
	rows := []struct {
		b     string
		count int
		right bool
	}{
		{"", 0, true}, {"a", 1, true}, {"\x00\x00", 2, true}, {"aä€😀", 4, true}, {"\xef\xbf\xbd", 1, true}, {strings.Repeat("€", 7000), 7000, true},
		{"\x80", 0, false}, {"a\x80", 0, false}, {"a\xc3", 0, false}, {"\xe2\x82", 0, false}, {"ab\xf0\x9f\x98", 0, false}, {"\xe2\x82a", 0, false},
		{"\xc0\x80", 0, false}, {"\xed\xa0\xbd\xed\xb8\x80", 0, false}, {"\xf4\x90\x80\x80", 0, false}, {"ä\xff€", 0, false}, {strings.Repeat("€", 7000) + "\xff", 0, false},
	}
	for _, row := range rows {
		want := api.OK
		if !row.right {
			want = api.ErrForm
		}
		if n, e := utf.Count([]byte(row.b)); n != row.count || e != want {
			t.Errorf("Count(%.20q) = %d, %d, not %d, %d", row.b, n, int(e), row.count, int(want))
		}
		if right := utf.Right([]byte(row.b)); right != row.right {
			t.Errorf("Right(%.20q) = %t", row.b, right)
		}
	}
	if n, e := utf.Count(nil); n != 0 || e != api.OK || !utf.Right(nil) {
		t.Errorf("of nothing: %d, %d, %t", n, int(e), utf.Right(nil))
	}
}

// P3.5, bytes of two texts, one behind the other, are as many characters as both.
func TestCountAdds(t *testing.T) {
	texts := []string{"", "a", "ä", "€", "😀", "a€", "😀ä", "\x7f\u0080\u07ff\u0800\uffff\U00010000\U0010ffff"}
	for _, first := range texts {
		for _, second := range texts {
			a, _ := utf.Count([]byte(first))
			b, _ := utf.Count([]byte(second))
			both, e := utf.Count([]byte(first + second))
			if e != api.OK || both != a+b || both != len([]rune(first+second)) {
				t.Errorf("%q and %q: %d, %d, both %d, %d", first, second, a, b, both, int(e))
			}
		}
	}
}

// P3.5, what is taken, put again, has just its bytes.
func TestTakenIsPutAgain(t *testing.T) {
	state := uint64(11)
	taken := 0
	for range 200000 {
		state = state*6364136223846793005 + 1442695040888963407
		b := []byte{byte(state >> 56), byte(state>>48)&0x7f | 0x80, byte(state>>40)&0x7f | 0x80, byte(state>>32)&0x7f | 0x80}
		c, next, e := utf.Take(b, 0)
		if e != api.OK {
			continue
		}
		taken++
		if again, e := utf.Put(nil, c); e != api.OK || !bytes.Equal(again, b[:next]) {
			t.Fatalf("% x is taken as %d, and put again % x", b[:next], c, again)
		}
	}
	if taken < 10000 {
		t.Fatalf("only %d were taken", taken)
	}
}

// P3.4 and P3.5, each pair by the sum of the promise, and Split of it; no two pairs are one character, and all from 65536 on are some pair's.
func TestEachPair(t *testing.T) {
	seen := make([]bool, top+1)
	for high := int32(55296); high <= 56319; high++ {
		for low := int32(56320); low <= 57343; low++ {
			want := 65536 + (high-55296)*1024 + low - 56320
			c, ok := utf.Pair(high, low)
			if !ok || c != want || c != int32(utf16.DecodeRune(rune(high), rune(low))) || seen[c] {
				t.Fatalf("Pair(%d, %d) = %d, %t, not %d", high, low, c, ok, want)
			}
			seen[c] = true
			if h, l, ok := utf.Split(c); h != high || l != low || !ok {
				t.Fatalf("Split(%d) = %d, %d, %t, not %d, %d", c, h, l, ok, high, low)
			}
		}
	}
	for c := 65536; c <= top; c++ {
		if !seen[c] {
			t.Fatalf("no pair is %d", c)
		}
	}
}

// P3.4, the examples, and the ends.
func TestGivenPairs(t *testing.T) {
	for c, pair := range map[int32][2]int32{65536: {55296, 56320}, 66559: {55296, 57343}, 66560: {55297, 56320}, 128512: {55357, 56832}, 1113088: {56319, 56320}, top: {56319, 57343}} {
		if got, ok := utf.Pair(pair[0], pair[1]); got != c || !ok {
			t.Errorf("Pair(%d, %d) = %d, %t, not %d", pair[0], pair[1], got, ok, c)
		}
		if high, low, ok := utf.Split(c); high != pair[0] || low != pair[1] || !ok {
			t.Errorf("Split(%d) = %d, %d, %t", c, high, low, ok)
		}
	}
}

// P3.4, numbers of which one is no such surrogate, on either side and in the other's place.
func TestNoPair(t *testing.T) {
	highs := []int32{55296, 55357, 56319}
	lows := []int32{56320, 56832, 57343}
	noHighs := append([]int32{math.MinInt32, -1, 0, 65, 55295, 57344, 65536, top, math.MaxInt32}, lows...)
	noLows := append([]int32{math.MinInt32, -1, 0, 65, 55295, 57344, 65536, top, math.MaxInt32}, highs...)
	none := func(high, low int32) {
		t.Helper()
		if c, ok := utf.Pair(high, low); c != 0 || ok {
			t.Errorf("Pair(%d, %d) = %d, %t", high, low, c, ok)
		}
	}
	for _, noHigh := range noHighs {
		for _, low := range lows {
			none(noHigh, low)
		}
		for _, noLow := range noLows {
			none(noHigh, noLow)
		}
	}
	for _, high := range highs {
		for _, noLow := range noLows {
			none(high, noLow)
		}
	}
}

// P3.4, numbers that are no pair's: characters below 65536, surrogates, and what is no character.
func TestNoSplit(t *testing.T) {
	none := func(c int32) {
		t.Helper()
		if high, low, ok := utf.Split(c); high != 0 || low != 0 || ok {
			t.Fatalf("Split(%d) = %d, %d, %t", c, high, low, ok)
		}
	}
	for c := int32(-70000); c < 65536; c++ {
		none(c)
	}
	for _, c := range []int32{math.MinInt32, math.MinInt32 + 65536, -top, top + 1, top + 2, 1 << 21, 1 << 30, math.MaxInt32 - 1, math.MaxInt32} {
		none(c)
	}
}
