package wire_test

import (
	"bytes"
	"encoding/binary"
	"math"
	"strings"
	"testing"
	"unicode/utf8"

	"avocet/api"
	"avocet/utf"
	"avocet/varint"
	"avocet/wire"
)

// told is what a call reads: a number, or bytes.
type told struct {
	n uint64
	x string
}

// call is one of the calls that read, with the size that it is handed, and what its promise says of bytes that are read from their beginning on: what it tells, how many bytes it reads, the error.
type call struct {
	name   string
	read   func(r wire.Reader) (told, wire.Reader)
	wanted func(b []byte) (told, int, api.Errno)
}

func number(read func(wire.Reader) (int64, wire.Reader)) func(wire.Reader) (told, wire.Reader) {
	return func(r wire.Reader) (told, wire.Reader) {
		n, behind := read(r)
		return told{n: uint64(n)}, behind
	}
}

func list(read func(wire.Reader) ([]byte, wire.Reader)) func(wire.Reader) (told, wire.Reader) {
	return func(r wire.Reader) (told, wire.Reader) {
		x, behind := read(r)
		return told{x: string(x)}, behind
	}
}

func bitsOf(size int) call {
	return call{
		name: "Bits",
		read: func(r wire.Reader) (told, wire.Reader) {
			n, behind := r.Bits(size)
			return told{n: n}, behind
		},
		wanted: func(b []byte) (told, int, api.Errno) {
			count := min(max(size, 0), 8)
			if count > len(b) {
				return told{}, 0, api.ErrShort
			}
			var full [8]byte
			copy(full[:], b[:count])
			return told{n: binary.LittleEndian.Uint64(full[:])}, count, api.OK
		},
	}
}

func fixedOf(size int) call {
	return call{
		name: "Fixed",
		read: func(r wire.Reader) (told, wire.Reader) {
			x, behind := r.Fixed(size)
			return told{x: string(x)}, behind
		},
		wanted: func(b []byte) (told, int, api.Errno) {
			count := max(size, 0)
			if count > len(b) {
				return told{}, 0, api.ErrShort
			}
			return told{x: string(b[:count])}, count, api.OK
		},
	}
}

func wantedBoolean(b []byte) (told, int, api.Errno) {
	if len(b) == 0 {
		return told{}, 0, api.ErrShort
	}
	if b[0] != 0 && b[0] != 1 {
		return told{}, 0, api.ErrForm
	}
	return told{n: uint64(b[0])}, 1, api.OK
}

func wantedInt(b []byte) (told, int, api.Errno) {
	n, next, e := varint.TakeInt(b, 0)
	return told{n: uint64(n)}, next, e
}

func wantedLong(b []byte) (told, int, api.Errno) {
	n, next, e := varint.Take(b, 0)
	return told{n: uint64(n)}, next, e
}

func wantedBytes(b []byte) (told, int, api.Errno) {
	n, next, e := varint.Take(b, 0)
	switch {
	case e != api.OK:
		return told{}, 0, e
	case n < 0:
		return told{}, 0, api.ErrForm
	case n > 20000:
		return told{}, 0, api.ErrLimit
	case n > int64(len(b)-next):
		return told{}, 0, api.ErrShort
	}
	return told{x: string(b[next : next+int(n)])}, next + int(n), api.OK
}

func wantedText(b []byte) (told, int, api.Errno) {
	x, next, e := wantedBytes(b)
	if e == api.OK && !utf8.ValidString(x.x) {
		return told{}, 0, api.ErrForm
	}
	return x, next, e
}

var (
	booleans = call{"Boolean", number(wire.Reader.Boolean), wantedBoolean}
	ints     = call{"Int", number(wire.Reader.Int), wantedInt}
	longs    = call{"Long", number(wire.Reader.Long), wantedLong}
	lists    = call{"Bytes", list(wire.Reader.Bytes), wantedBytes}
	texts    = call{"Text", list(wire.Reader.Text), wantedText}
)

// oddSizes are those below 0 and above 8, out to both ends, and the ones between.
var oddSizes = []int{math.MinInt, math.MinInt32, -9, -8, -1, 0, 1, 2, 3, 4, 5, 6, 7, 8, 9, 10, 16, 64, 72, 256, 257, 20000, 20001, math.MaxInt32, math.MaxInt - 1, math.MaxInt}

// calls are all calls that read, with each of the sizes.
func calls() []call {
	out := []call{booleans, ints, longs, lists, texts}
	for _, size := range oddSizes {
		out = append(out, bitsOf(size), fixedOf(size))
	}
	return out
}

// same tells whether two readers are alike in all.
func same(r, s wire.Reader) bool {
	return bytes.Equal(r.B, s.B) && r.At == s.At && r.Err == s.Err
}

// check asks a reader, holds what it tells, and where the reader behind it stands, against what is wanted, and looks whether the one that was asked stayed as it was.
func check(t *testing.T, c call, r wire.Reader, want told, at int, e api.Errno) {
	t.Helper()
	was := wire.Reader{B: bytes.Clone(r.B), At: r.At, Err: r.Err}
	got, behind := c.read(r)
	if got != want || behind.At != at || behind.Err != e || !bytes.Equal(behind.B, was.B) {
		t.Fatalf("%s of % .40x at %d, %d: %d, % .40x, at %d, %d, not %d, % .40x, at %d, %d", c.name, r.B, r.At, int(r.Err), got.n, got.x, behind.At, int(behind.Err), want.n, want.x, at, int(e))
	}
	if !same(r, was) {
		t.Fatalf("%s changed its reader: % .40x at %d, %d", c.name, r.B, r.At, int(r.Err))
	}
}

// checkWanted holds a call against its promise's words, from the beginning of the bytes on, and with others ahead.
func checkWanted(t *testing.T, c call, b []byte) {
	t.Helper()
	want, count, e := c.wanted(b)
	check(t, c, wire.Reader{B: b}, want, count, e)
	behind := append([]byte{0xff, 0x80, 1}, b...)
	check(t, c, wire.Reader{B: behind, At: 3}, want, 3+count, e)
}

// random tells bytes that hang on no rule; the same each time.
func random(seed uint64) func(count int) []byte {
	return func(count int) []byte {
		var b []byte
		for range count {
			seed = seed*6364136223846793005 + 1442695040888963407
			b = append(b, byte(seed>>56))
		}
		return b
	}
}

// sized is a size (as P4.4 has it) and bytes behind it.
func sized(n int64, x []byte) []byte {
	return append(varint.Put(nil, n), x...)
}

// P4.1: 0 and 1, each other byte, and none.
func TestBoolean(t *testing.T) {
	check(t, booleans, wire.Reader{}, told{}, 0, api.ErrShort)
	check(t, booleans, wire.Reader{B: []byte{0}}, told{n: 0}, 1, api.OK)
	check(t, booleans, wire.Reader{B: []byte{1}}, told{n: 1}, 1, api.OK)
	for x := range 256 {
		for _, rest := range [][]byte{nil, {0}, {1}, {0xff}} {
			checkWanted(t, booleans, append([]byte{byte(x)}, rest...))
		}
		if x > 1 {
			check(t, booleans, wire.Reader{B: []byte{0, byte(x), 1}, At: 1}, told{}, 1, api.ErrForm)
		}
	}
	check(t, booleans, wire.Reader{B: []byte{1, 1}, At: 2}, told{}, 2, api.ErrShort)
}

// P4.2: numbers at the ends of both sizes, and what each call refuses.
func TestIntAndLong(t *testing.T) {
	rows := []struct {
		b         string
		n         int64
		long, int api.Errno
	}{
		{"\x00", 0, api.OK, api.OK}, {"\x01", -1, api.OK, api.OK}, {"\x80\x01", 64, api.OK, api.OK}, {"\x7f", -64, api.OK, api.OK},
		{"\xfe\xff\xff\xff\x0f", math.MaxInt32, api.OK, api.OK}, {"\xff\xff\xff\xff\x0f", math.MinInt32, api.OK, api.OK},
		{"\x80\x80\x80\x80\x10", math.MaxInt32 + 1, api.OK, api.ErrForm}, {"\x81\x80\x80\x80\x10", math.MinInt32 - 1, api.OK, api.ErrForm},
		{"\xfe\xff\xff\xff\xff\xff\xff\xff\xff\x01", math.MaxInt64, api.OK, api.ErrForm}, {"\xff\xff\xff\xff\xff\xff\xff\xff\xff\x01", math.MinInt64, api.OK, api.ErrForm},
		{"", 0, api.ErrShort, api.ErrShort}, {"\x80", 0, api.ErrShort, api.ErrShort}, {"\xff\xff\xff\xff", 0, api.ErrShort, api.ErrShort},
		{"\x80\x80\x80\x80\x80", 0, api.ErrShort, api.ErrForm}, {"\x80\x00", 0, api.ErrForm, api.ErrForm}, {"\xff\xff\xff\xff\xff\xff\xff\xff\xff\x02", 0, api.ErrForm, api.ErrForm},
	}
	for _, row := range rows {
		for _, ahead := range []string{"", "\x02", "\xff\xff"} {
			r := wire.Reader{B: []byte(ahead + row.b), At: len(ahead)}
			for _, c := range []struct {
				call call
				e    api.Errno
			}{{longs, row.long}, {ints, row.int}} {
				if c.e == api.OK {
					check(t, c.call, r, told{n: uint64(row.n)}, len(r.B), api.OK)
				} else {
					check(t, c.call, r, told{}, r.At, c.e)
				}
			}
		}
	}
}

// P4.3, Bits: the lowest byte first, sizes below 0 as 0, above 8 as 8.
func TestBits(t *testing.T) {
	b := []byte{1, 2, 3, 4, 5, 6, 7, 0x88, 9, 10}
	wants := []uint64{0, 1, 0x201, 0x30201, 0x4030201, 0x504030201, 0x60504030201, 0x7060504030201, 0x8807060504030201}
	for _, size := range oddSizes {
		count := min(max(size, 0), 8)
		check(t, bitsOf(size), wire.Reader{B: b}, told{n: wants[count]}, count, api.OK)
		check(t, bitsOf(size), wire.Reader{B: b[:count]}, told{n: wants[count]}, count, api.OK)
		check(t, bitsOf(size), wire.Reader{B: b, At: 10 - count}, told{n: func() uint64 {
			var full [8]byte
			copy(full[:], b[10-count:])
			return binary.LittleEndian.Uint64(full[:])
		}()}, 10, api.OK)
		if count > 0 {
			check(t, bitsOf(size), wire.Reader{B: b[:count-1]}, told{}, 0, api.ErrShort)
			check(t, bitsOf(size), wire.Reader{B: b, At: 11 - count}, told{}, 11-count, api.ErrShort)
		}
		for left := range b {
			checkWanted(t, bitsOf(size), b[left:])
		}
	}
}

// P4.3, Fixed: all that is left, one byte more, and sizes that no bytes have; of no size the bytes may be at their end.
func TestFixed(t *testing.T) {
	b := random(3)(30000)
	for _, size := range append(oddSizes, 29999, 30000, 30001) {
		checkWanted(t, fixedOf(size), b)
		checkWanted(t, fixedOf(size), b[:9])
		checkWanted(t, fixedOf(size), nil)
	}
	for at := range 20 {
		check(t, fixedOf(20-at), wire.Reader{B: b[:20], At: at}, told{x: string(b[at:20])}, 20, api.OK)
		check(t, fixedOf(21-at), wire.Reader{B: b[:20], At: at}, told{}, at, api.ErrShort)
		check(t, fixedOf(math.MaxInt), wire.Reader{B: b[:20], At: at}, told{}, at, api.ErrShort)
	}
	check(t, fixedOf(0), wire.Reader{B: b[:4], At: 4}, told{}, 4, api.OK)
	check(t, fixedOf(-1), wire.Reader{}, told{}, 0, api.OK)
}

// P4.4: the chapter's example, ordinary bytes and texts, and what both calls refuse.
func TestBytesAndText(t *testing.T) {
	check(t, texts, wire.Reader{B: []byte("\x06foo")}, told{x: "foo"}, 4, api.OK)
	rows := []struct {
		b           string
		x           string
		bytes, text api.Errno
	}{
		{"\x00", "", api.OK, api.OK}, {"\x00\xff", "", api.OK, api.OK}, {"\x06foo", "foo", api.OK, api.OK}, {"\x06foobar", "foo", api.OK, api.OK},
		{"\x04\xc3\xa4", "ä", api.OK, api.OK}, {"\x06\xe2\x82\xac\x80", "€", api.OK, api.OK}, {"\x08\xf0\x9f\x98\x80", "😀", api.OK, api.OK}, {"\x02\x00", "\x00", api.OK, api.OK},
		{"\x02\xff", "\xff", api.OK, api.ErrForm}, {"\x04\xc0\x80", "\xc0\x80", api.OK, api.ErrForm}, {"\x04\xe2\x82\xac", "\xe2\x82", api.OK, api.ErrForm}, {"\x06\xed\xa0\x80", "\xed\xa0\x80", api.OK, api.ErrForm},
		{"", "", api.ErrShort, api.ErrShort}, {"\x80", "", api.ErrShort, api.ErrShort}, {"\x02", "", api.ErrShort, api.ErrShort}, {"\x06fo", "", api.ErrShort, api.ErrShort},
		{"\x06\xff\xff", "", api.ErrShort, api.ErrShort}, // it ends too soon, ahead of what the bytes are
		{"\x01", "", api.ErrForm, api.ErrForm}, {"\x01a", "", api.ErrForm, api.ErrForm}, {"\x05abc", "", api.ErrForm, api.ErrForm}, {"\x80\x00", "", api.ErrForm, api.ErrForm},
		{"\xff\xff\xff\xff\xff\xff\xff\xff\xff\x01", "", api.ErrForm, api.ErrForm}, {"\xff\xff\xff\xff\xff\xff\xff\xff\xff\x02", "", api.ErrForm, api.ErrForm},
		{"\xfe\xff\xff\xff\xff\xff\xff\xff\xff\x01", "", api.ErrLimit, api.ErrLimit},
	}
	for _, row := range rows {
		for _, ahead := range []string{"", "\x04", "\xff\xff\xff"} {
			r := wire.Reader{B: []byte(ahead + row.b), At: len(ahead)}
			for _, c := range []struct {
				call call
				e    api.Errno
			}{{lists, row.bytes}, {texts, row.text}} {
				if c.e == api.OK {
					check(t, c.call, r, told{x: row.x}, len(ahead)+1+len(row.x), api.OK)
				} else {
					check(t, c.call, r, told{}, len(ahead), c.e)
				}
			}
		}
	}
}

// P4.4, sizes at MaxBytes and beyond: what is too much is refused ahead of bytes that are too few, and of what they are.
func TestGreatSizes(t *testing.T) {
	full := bytes.Repeat([]byte("ab\u20ac"), 5000)
	wrong := bytes.Repeat([]byte{0xff}, 25000)
	for _, size := range []int64{127, 128, 8191, 8192, 19999, 20000, 20001, 25000, 25001, math.MaxInt32, math.MaxInt32 + 1, 1 << 32, 1<<32 + 3, math.MaxInt64 - 1, math.MaxInt64} {
		for _, x := range [][]byte{nil, full[:20], full, wrong} {
			b := sized(size, x)
			checkWanted(t, lists, b)
			checkWanted(t, texts, b)
			if size > 20000 {
				check(t, lists, wire.Reader{B: b}, told{}, 0, api.ErrLimit)
				check(t, texts, wire.Reader{B: b}, told{}, 0, api.ErrLimit)
			}
		}
	}
	check(t, lists, wire.Reader{B: sized(20000, full)}, told{x: string(full[:20000])}, 20003, api.OK)
	check(t, texts, wire.Reader{B: sized(20000, full)}, told{x: string(full[:20000])}, 20003, api.OK)
	check(t, lists, wire.Reader{B: sized(20000, full[:19999])}, told{}, 0, api.ErrShort)
	for _, size := range []int64{-1, -2, -20000, -20001, math.MinInt32, math.MinInt64} {
		check(t, lists, wire.Reader{B: sized(size, full)}, told{}, 0, api.ErrForm)
		check(t, texts, wire.Reader{B: sized(size, full)}, told{}, 0, api.ErrForm)
	}
}

// P4.1 to P4.4, in their own words, of all one and two bytes, and of some that hang on no rule.
func TestManyBytes(t *testing.T) {
	all := calls()
	for x := range 256 {
		for y := range 256 {
			b := []byte{byte(x), byte(y)}
			for _, c := range all[:5] {
				checkWanted(t, c, b)
				checkWanted(t, c, append(b, "a\xc3\xa4\x80\x01bcdef"...))
			}
		}
	}
	some := random(17)
	for size := range 3000 {
		b := some(size % 40)
		if len(b) > 0 && size%3 > 0 {
			b[0] = b[0] % 32 // more sizes that the bytes have
		}
		if size%3 == 2 {
			for i := range b {
				b[i] &= 0x7f
			}
		}
		for _, c := range all {
			checkWanted(t, c, b)
		}
	}
}

// The Words: a reader that stands below 0 or behind its bytes is refused with ErrArg, whatever is asked, and stays where it stands.
func TestPlaces(t *testing.T) {
	for _, b := range [][]byte{nil, {}, {0}, {1, 1, 1}, {6, 'f', 'o', 'o', 0, 0, 0, 0, 0, 0}, {0xff}, {0x80}} {
		for _, at := range []int{math.MinInt, math.MinInt + 1, -20000, -2, -1, len(b) + 1, len(b) + 2, len(b) + 20000, math.MaxInt - 1, math.MaxInt} {
			r := wire.Reader{B: b, At: at}
			for _, c := range calls() {
				check(t, c, r, told{}, at, api.ErrArg)
			}
			if e := r.End(); e != api.ErrArg {
				t.Errorf("End of % x at %d is %d", b, at, int(e))
			}
		}
	}
}

// The Words: a reader that has refused reads nothing, and keeps its refusal, wherever it stands.
func TestRefusedReaders(t *testing.T) {
	b := []byte{1, 1, 1, 1, 1, 1, 1, 1, 1, 1}
	for _, e := range []api.Errno{api.ErrNil, api.ErrArg, api.ErrBig, api.ErrShort, api.ErrForm, api.ErrRest, api.ErrLimit, api.ErrRequest, 99, -1, math.MinInt} {
		for _, at := range []int{math.MinInt, -1, 0, 1, 9, 10, 11, math.MaxInt} {
			r := wire.Reader{B: b, At: at, Err: e}
			for _, c := range calls() {
				check(t, c, r, told{}, at, e)
			}
			if got := r.End(); got != e {
				t.Errorf("End at %d of one that refused with %d is %d", at, int(e), int(got))
			}
		}
	}
}

// The Words: what refuses goes on refusing, where it stood, whatever is asked then.
func TestRefusalStays(t *testing.T) {
	all := calls()
	for _, b := range [][]byte{{2}, {0x80}, {3, 1, 1}, {0x80, 0, 1, 1, 1, 1, 1, 1, 1, 1}, {2, 0xff, 1, 1}, sized(20001, []byte("ab"))} {
		for _, first := range all {
			_, r := first.read(wire.Reader{B: b})
			if r.Err == api.OK {
				continue
			}
			for _, then := range all {
				check(t, then, r, told{}, 0, r.Err)
			}
			if e := r.End(); e != r.Err {
				t.Errorf("End of one that refused with %d is %d", int(r.Err), int(e))
			}
		}
	}
}

// P4.5: at the end, ahead of it, and of nothing.
func TestEnd(t *testing.T) {
	for size := range 5 {
		b := make([]byte, size)
		for at := range size + 1 {
			r := wire.Reader{B: b, At: at}
			want := api.ErrRest
			if at == size {
				want = api.OK
			}
			if e := r.End(); e != want {
				t.Errorf("End of %d bytes at %d is %d", size, at, int(e))
			}
			if r.At != at || r.Err != api.OK || len(r.B) != size {
				t.Errorf("End changed its reader: at %d, %d", r.At, int(r.Err))
			}
		}
	}
	if e := (wire.Reader{}).End(); e != api.OK {
		t.Errorf("End of nothing is %d", int(e))
	}
	_, r := wire.Reader{B: []byte("\x06foo")}.Text()
	if e := r.End(); e != api.OK {
		t.Errorf("End behind a text is %d", int(e))
	}
	_, r = wire.Reader{B: []byte("\x06fooo")}.Text()
	if e := r.End(); e != api.ErrRest {
		t.Errorf("End ahead of a byte is %d", int(e))
	}
}

// Rule 8: what lies behind the bytes' length is not read.
func TestSpareRoomIsNotRead(t *testing.T) {
	room := []byte("\x06foo\x01\x01\x01\x01\x01\x01")
	for size := range 4 {
		checkWanted(t, texts, room[:size])
		checkWanted(t, lists, room[:size])
		checkWanted(t, fixedOf(4), room[:size])
		checkWanted(t, bitsOf(8), room[:size+4])
	}
	check(t, booleans, wire.Reader{B: room[:0]}, told{}, 0, api.ErrShort)
	check(t, longs, wire.Reader{B: []byte{0x80, 1}[:1]}, told{}, 0, api.ErrShort)
	check(t, longs, wire.Reader{B: room[:2], At: 4}, told{}, 4, api.ErrArg)
}

// P4.3, P4.4, rule 4: what is told is a copy, with its spare room: neither it nor the reader's bytes are changed by what is done to the other.
func TestTheirOwnMemory(t *testing.T) {
	reads := map[string]func(wire.Reader) ([]byte, wire.Reader){
		"Fixed": func(r wire.Reader) ([]byte, wire.Reader) { return r.Fixed(3) },
		"Bytes": wire.Reader.Bytes,
		"Text":  wire.Reader.Text,
	}
	for name, read := range reads {
		b := []byte("\x06foobar")
		r := wire.Reader{B: b}
		x, _ := read(r)
		y, _ := read(r)
		was := string(x)
		for i := range x {
			x[i] = '!'
		}
		for i := range x[:cap(x)] {
			x[:cap(x)][i] = '!'
		}
		if string(b) != "\x06foobar" || string(y) != was {
			t.Errorf("%s hands out memory that is not the answer's own: % x, % x", name, b, y)
		}
		for i := range b {
			b[i] = 0
		}
		if string(y) != was {
			t.Errorf("%s keeps the reader's memory: % x", name, y)
		}
	}
}

// P4.6, PutBoolean: 0, and each number that is not.
func TestPutBoolean(t *testing.T) {
	for n, want := range map[int64]byte{0: 0, 1: 1, -1: 1, 2: 1, 255: 1, 256: 1, 1 << 32: 1, math.MaxInt64: 1, math.MinInt64: 1} {
		checkPut(t, "PutBoolean", func(b []byte) []byte { return wire.PutBoolean(b, n) }, []byte{want})
	}
}

// P4.6, PutBits: the lowest byte first, and sizes as in Bits.
func TestPutBits(t *testing.T) {
	for _, n := range []uint64{0, 1, 255, 256, 0x0807060504030281, 0xff00ff00ff00ff00, math.MaxUint64} {
		for _, size := range oddSizes {
			want := binary.LittleEndian.AppendUint64(nil, n)[:min(max(size, 0), 8)]
			checkPut(t, "PutBits", func(b []byte) []byte { return wire.PutBits(b, n, size) }, want)
		}
	}
	if b := wire.PutBits(nil, 0x3ff0000000000000, 8); string(b) != "\x00\x00\x00\x00\x00\x00\xf0\x3f" {
		t.Errorf("PutBits of a number of 64 digits: % x", b)
	}
}

// P4.6, PutBytes: any bytes, also ones that are no characters, and more than MaxBytes; they stay as they were.
func TestPutBytes(t *testing.T) {
	for _, row := range [][2]string{{"", "\x00"}, {"a", "\x02a"}, {"foo", "\x06foo"}, {"\xff\x00", "\x04\xff\x00"}, {strings.Repeat("x", 63), "\x7e" + strings.Repeat("x", 63)}, {strings.Repeat("x", 64), "\x80\x01" + strings.Repeat("x", 64)}} {
		checkPut(t, "PutBytes", func(b []byte) []byte { return wire.PutBytes(b, []byte(row[0])) }, []byte(row[1]))
	}
	some := random(5)
	for _, size := range []int{0, 1, 62, 63, 64, 65, 8191, 8192, 19999, 20000, 20001, 70000, 1 << 20} {
		x := some(size)
		was := bytes.Clone(x)
		checkPut(t, "PutBytes", func(b []byte) []byte { return wire.PutBytes(b, x) }, binary.AppendVarint(nil, int64(size)), x)
		if !bytes.Equal(x, was) {
			t.Errorf("PutBytes changed %d bytes that it was handed", size)
		}
	}
	checkPut(t, "PutBytes", func(b []byte) []byte { return wire.PutBytes(b, nil) }, []byte{0})
}

// checkPut holds what is put, behind bytes with spare room or without, against what is wanted, and those bytes against what they were.
func checkPut(t *testing.T, name string, put func(b []byte) []byte, wants ...[]byte) {
	t.Helper()
	want := bytes.Join(wants, nil)
	for _, b := range [][]byte{nil, {}} {
		if got := put(b); !bytes.Equal(got, want) {
			t.Fatalf("%s behind nothing: % .40x, not % .40x", name, got, want)
		}
	}
	for _, room := range []int{0, 1, 2, 7, 8, 9, len(want), len(want) + 5} {
		b := append(make([]byte, 0, 3+room), 0xff, 0, 0x80)
		got := put(b)
		if !bytes.Equal(got, append([]byte{0xff, 0, 0x80}, want...)) {
			t.Fatalf("%s behind three bytes with room for %d: % .40x, not % .40x", name, room, got, want)
		}
		if !bytes.Equal(b, []byte{0xff, 0, 0x80}) {
			t.Fatalf("%s with room for %d changed what it was handed: % x", name, room, b)
		}
	}
}

// P4.6, rule 10: bytes that stand in the spare room of those that they are put behind are put as they were.
func TestPutBytesOutOfSpareRoom(t *testing.T) {
	for _, size := range []int{0, 1, 3, 63, 64, 200, 8192, 20000} {
		for _, gap := range []int{0, 1, 2, 3, 5} {
			memory := append(make([]byte, 0, 2*size+40), "ab"...)
			x := append(memory[2:2+gap], random(9)(size)...)[gap:]
			want := append(binary.AppendVarint([]byte("ab"), int64(size)), x...)
			if got := wire.PutBytes(memory, x); !bytes.Equal(got, want) {
				t.Errorf("%d bytes that stand %d behind: % .40x, not % .40x", size, gap, got, want)
			}
		}
	}
}

// P4.7: what is put is read, and what stands behind it is left, whatever it is.
func TestPutIsRead(t *testing.T) {
	some := random(21)
	for _, ahead := range []string{"", "\x80", "\xff\xff\xff"} {
		for _, rest := range []string{"", "\x00", "\x01", "\x80\xff", "\x06foo"} {
			back := func(c call, b []byte, want told) {
				t.Helper()
				check(t, c, wire.Reader{B: append(bytes.Clone(b), rest...), At: len(ahead)}, want, len(b), api.OK)
			}
			start := func() []byte { return []byte(ahead) }
			back(booleans, wire.PutBoolean(start(), 0), told{n: 0})
			for _, n := range []int64{1, -1, 7, math.MinInt64} {
				back(booleans, wire.PutBoolean(start(), n), told{n: 1})
			}
			for size := -1; size <= 9; size++ {
				n := binary.LittleEndian.Uint64(some(8))
				kept := n
				if size < 8 {
					kept = n % (1 << (8 * max(size, 0)))
				}
				back(bitsOf(size), wire.PutBits(start(), n, size), told{n: kept})
			}
			for _, size := range []int{0, 1, 63, 64, 300, 20000} {
				x := some(size)
				back(lists, wire.PutBytes(start(), x), told{x: string(x)})
				text := strings.Repeat("ä", size/2)
				back(lists, wire.PutBytes(start(), []byte(text)), told{x: text})
				back(texts, wire.PutBytes(start(), []byte(text)), told{x: text})
			}
		}
	}
}

// P4.7: several of them, one behind the other, are read in a row, up to the end; and a reader that was asked can be asked anew.
func TestInARow(t *testing.T) {
	b := wire.PutBoolean(nil, 5)
	b = varint.Put(b, -65)
	b = varint.Put(b, math.MinInt64)
	b = wire.PutBits(b, 0x3fc00000, 4)
	b = append(b, 0xff, 0xfe)
	b = wire.PutBytes(b, []byte{0x80})
	b = wire.PutBytes(b, []byte("€"))
	row := []struct {
		call call
		want told
	}{
		{booleans, told{n: 1}}, {ints, told{n: ^uint64(64)}}, {longs, told{n: 1 << 63}}, {bitsOf(4), told{n: 0x3fc00000}}, {fixedOf(2), told{x: "\xff\xfe"}}, {lists, told{x: "\x80"}}, {texts, told{x: "€"}},
	}
	r := wire.Reader{B: b}
	for _, step := range row {
		if e := r.End(); e != api.ErrRest {
			t.Fatalf("End ahead of %s is %d", step.call.name, int(e))
		}
		var behind wire.Reader
		for range 2 {
			var got told
			if got, behind = step.call.read(r); got != step.want || behind.Err != api.OK {
				t.Fatalf("%s at %d: %d, % x, %d", step.call.name, r.At, got.n, got.x, int(behind.Err))
			}
		}
		r = behind
	}
	if e := r.End(); e != api.OK || r.At != len(b) {
		t.Fatalf("End is %d, at %d", int(e), r.At)
	}
}

// P4.4 hangs on chapter 3: Text takes just what Right has of the bytes.
func TestTextIsRight(t *testing.T) {
	some := random(31)
	right := 0
	for size := range 5000 {
		x := some(size % 5)
		if size%2 == 0 {
			for i := range x {
				x[i] &= 0x7f
			}
		}
		got, behind := wire.Reader{B: wire.PutBytes(nil, x)}.Text()
		if utf.Right(x) {
			right++
			if behind.Err != api.OK || !bytes.Equal(got, x) {
				t.Fatalf("Text of % x: % x, %d", x, got, int(behind.Err))
			}
		} else if behind.Err != api.ErrForm || behind.At != 0 || len(got) != 0 {
			t.Fatalf("Text of % x: % x, at %d, %d", x, got, behind.At, int(behind.Err))
		}
	}
	if right < 1000 || right > 4500 {
		t.Fatalf("%d were right", right)
	}
}
