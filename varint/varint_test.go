package varint_test

import (
	"bytes"
	"encoding/binary"
	"math"
	"math/big"
	"slices"
	"testing"

	"avocet/api"
	"avocet/varint"
)

// take is either of the calls that take a number.
type take func(b []byte, at int) (int64, int, api.Errno)

// size is what P2.2 and P2.3 say apart: the call, how many bytes a number has at most, and the greatest last one of so many.
type size struct {
	name string
	take take
	most int
	top  byte
}

func sizes() []size {
	return []size{
		{"Take", varint.Take, 10, 1},
		{"TakeInt", varint.TakeInt, 5, 15},
	}
}

// numbers are those near 0, those near each power of two and its negative, and some of each width.
func numbers() []int64 {
	var out []int64
	for n := int64(-20000); n <= 20000; n++ {
		out = append(out, n)
	}
	for shift := range 64 {
		for off := int64(-3); off <= 3; off++ {
			power := int64(uint64(1)<<shift) + off
			out = append(out, power, -power)
		}
	}
	state := uint64(1)
	for range 20000 {
		state = state*6364136223846793005 + 1442695040888963407
		out = append(out, int64(state)>>(state>>58))
	}
	return out
}

// fits tells whether a number has 32 digits.
func fits(n int64) bool { return n >= math.MinInt32 && n <= math.MaxInt32 }

// repeated is so many bytes x, and rest behind them.
func repeated(count int, x byte, rest ...byte) []byte {
	return append(bytes.Repeat([]byte{x}, count), rest...)
}

// wanted is what P2.2 and P2.3 say of bytes that are taken from their beginning on, in their words: the number, how many bytes it has, the error.
func (s size) wanted(b []byte) (int64, int, api.Errno) {
	last := slices.IndexFunc(b, func(x byte) bool { return x < 128 })
	full := len(b) >= s.most && (last < 0 || last >= s.most-1)
	switch {
	case full && b[s.most-1] > s.top:
		return 0, 0, api.ErrForm
	case last < 0:
		return 0, 0, api.ErrShort
	case last > 0 && b[last] == 0:
		return 0, 0, api.ErrForm
	}
	zig := new(big.Int)
	for i := last; i >= 0; i-- {
		zig.Mul(zig, big.NewInt(128))
		zig.Add(zig, big.NewInt(int64(b[i]%128)))
	}
	n, odd := new(big.Int).DivMod(zig, big.NewInt(2), new(big.Int))
	if odd.Sign() != 0 {
		n.Neg(n)
		n.Sub(n, big.NewInt(1))
	}
	if !n.IsInt64() {
		panic("beyond 64 digits")
	}
	return n.Int64(), last + 1, api.OK
}

// check holds a call on bytes against what is wanted, and against the bytes that it was handed.
func check(t *testing.T, s size, b []byte, at int, n int64, next int, e api.Errno) {
	t.Helper()
	before := bytes.Clone(b)
	gotN, gotNext, gotE := s.take(b, at)
	if gotN != n || gotNext != next || gotE != e {
		t.Fatalf("%s(% x, %d) = %d, %d, %d, not %d, %d, %d", s.name, b, at, gotN, gotNext, int(gotE), n, next, int(e))
	}
	if !bytes.Equal(b, before) {
		t.Fatalf("%s changed % x to % x", s.name, before, b)
	}
}

// checkWanted holds both calls against their promises' words, with bytes ahead that are not looked at.
func checkWanted(t *testing.T, b []byte) {
	t.Helper()
	for _, s := range sizes() {
		n, count, e := s.wanted(b)
		check(t, s, b, 0, n, count, e)
		behind := append([]byte{0xff, 0x80, 0}, b...)
		check(t, s, behind, 3, n, 3+count, e)
	}
}

// P2.1, the examples, and the ends of each width.
func TestPutOfGivenNumbers(t *testing.T) {
	rows := []struct {
		n    int64
		want []byte
	}{
		{0, []byte{0}}, {-1, []byte{1}}, {1, []byte{2}}, {-2, []byte{3}}, {2, []byte{4}},
		{63, []byte{0x7e}}, {-64, []byte{0x7f}}, {64, []byte{0x80, 1}}, {-65, []byte{0x81, 1}},
		{8191, []byte{0xfe, 0x7f}}, {-8192, []byte{0xff, 0x7f}}, {8192, []byte{0x80, 0x80, 1}},
		{math.MaxInt32, []byte{0xfe, 0xff, 0xff, 0xff, 15}}, {math.MinInt32, []byte{0xff, 0xff, 0xff, 0xff, 15}},
		{math.MaxInt32 + 1, []byte{0x80, 0x80, 0x80, 0x80, 16}},
		{math.MaxInt64, repeated(1, 0xfe, repeated(8, 0xff, 1)...)}, {math.MinInt64, repeated(9, 0xff, 1)},
	}
	for _, row := range rows {
		if b := varint.Put(nil, row.n); !bytes.Equal(b, row.want) {
			t.Errorf("Put(nil, %d) = % x, not % x", row.n, b, row.want)
		}
		if size := varint.Size(row.n); size != len(row.want) {
			t.Errorf("Size(%d) = %d, not %d", row.n, size, len(row.want))
		}
		check(t, sizes()[0], row.want, 0, row.n, len(row.want), api.OK)
	}
}

// P2.1, over the whole range, against the library's numbers of the same form.
func TestPutAndSize(t *testing.T) {
	for _, n := range numbers() {
		want := binary.AppendVarint(nil, n)
		if b := varint.Put(nil, n); !bytes.Equal(b, want) {
			t.Fatalf("Put(nil, %d) = % x, not % x", n, b, want)
		}
		if size := varint.Size(n); size != len(want) {
			t.Fatalf("Size(%d) = %d, not %d", n, size, len(want))
		}
	}
}

// P2.1, the bytes that are there stay as they are, with spare room or without.
func TestPutStandsBehind(t *testing.T) {
	for _, n := range []int64{0, -1, 64, math.MinInt32, math.MinInt64} {
		bytesOfN := varint.Put(nil, n)
		for _, room := range []int{0, 1, 5, 20} {
			b := append(make([]byte, 0, 3+room), 0xff, 0, 0x80)
			got := varint.Put(b, n)
			if want := append([]byte{0xff, 0, 0x80}, bytesOfN...); !bytes.Equal(got, want) {
				t.Errorf("Put of %d with room for %d: % x, not % x", n, room, got, want)
			}
			if !bytes.Equal(b, []byte{0xff, 0, 0x80}) {
				t.Errorf("Put of %d with room for %d changed what it was handed: % x", n, room, b)
			}
		}
	}
}

// P2.2 and P2.3, places that may not be, ahead of all that the bytes could be refused for; the place behind the last byte may be.
func TestPlaces(t *testing.T) {
	for _, s := range sizes() {
		for _, b := range [][]byte{nil, {}, {2}, {0x80}, {0x80, 0}, repeated(12, 0xff)} {
			for _, at := range []int{math.MinInt, -2, -1, len(b) + 1, len(b) + 2, math.MaxInt} {
				check(t, s, b, at, 0, at, api.ErrArg)
			}
			check(t, s, b, len(b), 0, len(b), api.ErrShort)
		}
	}
}

// What lies behind a list's length is not read (rule 8).
func TestSpareRoomIsNotRead(t *testing.T) {
	b := []byte{0x80, 1, 2}
	for _, s := range sizes() {
		check(t, s, b[:1], 0, 0, 0, api.ErrShort)
		check(t, s, b[:1], 1, 0, 1, api.ErrShort)
		check(t, s, b[:1], 2, 0, 2, api.ErrArg)
	}
}

// P2.2 and P2.3, bytes that end ahead of one below 128.
func TestShort(t *testing.T) {
	for _, s := range sizes() {
		for count := range s.most {
			for _, x := range []byte{0x80, 0x81, 0xff} {
				check(t, s, repeated(count, x), 0, 0, 0, api.ErrShort)
				check(t, s, repeated(count+2, x), 2, 0, 2, api.ErrShort)
			}
		}
	}
}

// P2.2 and P2.3, the last byte that there may be: what it holds, and what it does not.
func TestTop(t *testing.T) {
	for _, s := range sizes() {
		for top := range 256 {
			b := repeated(s.most-1, 0x80, byte(top))
			want := api.ErrForm
			if top >= 1 && top <= int(s.top) {
				want = api.OK
			}
			// One more byte behind, whatever it is, or none: the same.
			for _, rest := range [][]byte{nil, {0}, {1}, {0x80}, {0xff}} {
				_, next, e := s.take(append(bytes.Clone(b), rest...), 0)
				if e != want || e == api.OK && next != s.most || e != api.OK && next != 0 {
					t.Fatalf("%s(% x and % x) tells %d, %d", s.name, b, rest, next, int(e))
				}
			}
		}
	}
}

// P2.2 and P2.3, a last byte 0 of several is refused, one alone is 0.
func TestNoughtsAhead(t *testing.T) {
	for _, s := range sizes() {
		check(t, s, []byte{0}, 0, 0, 1, api.OK)
		check(t, s, []byte{0, 0}, 0, 0, 1, api.OK)
		for count := 1; count < s.most; count++ {
			for _, x := range []byte{0x80, 0x81, 0xff} {
				check(t, s, repeated(count, x, 0), 0, 0, 0, api.ErrForm)
				check(t, s, repeated(count+1, x, 0, 2), 1, 0, 1, api.ErrForm)
			}
		}
		check(t, s, []byte{0x81, 0x80, 1}, 0, -8193, 3, api.OK) // a part 0 within, and it has more
	}
}

// P2.2 and P2.3, in their own words, of all rows of bytes at which something turns, up to one more than a number may have.
func TestTakeOfManyBytes(t *testing.T) {
	turns := []byte{0, 1, 2, 15, 16, 127, 128, 129, 143, 144, 255}
	for count := range 14 {
		for _, fill := range []byte{0x80, 0x81, 0xff} {
			for _, x := range turns {
				checkWanted(t, repeated(count, fill, x))
				for _, y := range turns {
					checkWanted(t, repeated(count, fill, x, y))
				}
			}
		}
	}
	for x := range 256 {
		for y := range 256 {
			checkWanted(t, []byte{byte(x), byte(y)})
		}
	}
}

// The same of bytes that hang on no rule, most of them above 127.
func TestTakeOfAnyBytes(t *testing.T) {
	state := uint64(7)
	for range 50000 {
		var b []byte
		for range 12 {
			state = state*6364136223846793005 + 1442695040888963407
			x := byte(state >> 40)
			if state>>60 != 0 {
				x |= 0x80
			}
			b = append(b, x)
		}
		checkWanted(t, b[:state>>50%13])
	}
}

// P2.4, a number that is put is taken, behind anything and ahead of anything; TakeInt takes it just if it has 32 digits.
func TestThereAndBack(t *testing.T) {
	long, short := sizes()[0], sizes()[1]
	for _, n := range numbers() {
		for _, ahead := range [][]byte{nil, {0}, {0x80}, {0xff, 0xff, 0xff}} {
			for _, rest := range [][]byte{nil, {0}, {0xff}} {
				b := varint.Put(bytes.Clone(ahead), n)
				next := len(b)
				b = append(b, rest...)
				check(t, long, b, len(ahead), n, next, api.OK)
				if fits(n) {
					check(t, short, b, len(ahead), n, next, api.OK)
				} else {
					check(t, short, b, len(ahead), 0, len(ahead), api.ErrForm)
				}
			}
		}
	}
}

// P2.4, the ends of what TakeInt takes.
func TestEndsOfTakeInt(t *testing.T) {
	short := sizes()[1]
	for _, n := range []int64{math.MinInt32, math.MaxInt32} {
		check(t, short, varint.Put(nil, n), 0, n, 5, api.OK)
	}
	for _, n := range []int64{math.MinInt32 - 1, math.MaxInt32 + 1, math.MinInt64, math.MaxInt64} {
		check(t, short, varint.Put(nil, n), 0, 0, 0, api.ErrForm)
	}
}

// P2.4, what is taken has, put again, just its bytes, and both calls take the same.
func TestTakenIsPutAgain(t *testing.T) {
	state := uint64(3)
	taken := 0
	for range 100000 {
		state = state*6364136223846793005 + 1442695040888963407
		b := binary.LittleEndian.AppendUint64(nil, state|0x8080808080808080>>(state>>57))
		b = append(b, byte(state>>20), byte(state>>28)%4)
		n, next, e := varint.Take(b, 0)
		m, nextOfInt, eOfInt := varint.TakeInt(b, 0)
		if both := e == api.OK && fits(n); both != (eOfInt == api.OK) || both && (m != n || nextOfInt != next) {
			t.Fatalf("of % x: Take %d, %d, %d; TakeInt %d, %d, %d", b, n, next, int(e), m, nextOfInt, int(eOfInt))
		}
		if e != api.OK {
			continue
		}
		taken++
		if again := varint.Put(nil, n); !bytes.Equal(again, b[:next]) {
			t.Fatalf("% x is taken as %d, and put again % x", b[:next], n, again)
		}
	}
	if taken < 1000 {
		t.Fatalf("only %d were taken", taken)
	}
}
