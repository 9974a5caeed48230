package zig_test

import (
	"math"
	"math/big"
	"testing"

	"avocet/zig"
)

// numbers are those near 0, and those near each power of two and its negative, where digits and parts begin.
func numbers() []int64 {
	var out []int64
	for n := int64(-20000); n <= 20000; n++ {
		out = append(out, n)
	}
	for shift := range 64 {
		for off := int64(-3); off <= 3; off++ {
			power := int64(uint64(1)<<shift) + off
			out = append(out, power, -power)
		}
	}
	state := uint64(1)
	for range 20000 {
		state = state*6364136223846793005 + 1442695040888963407
		out = append(out, int64(state)>>(state>>58))
	}
	return out
}

// zigBySum is what P1.1 says, worked out by numbers that have no range.
func zigBySum(n int64) uint64 {
	x := new(big.Int).Mul(big.NewInt(n), big.NewInt(2))
	if n < 0 {
		x.Neg(x)
		x.Sub(x, big.NewInt(1))
	}
	if !x.IsUint64() {
		panic("beyond 64 digits")
	}
	return x.Uint64()
}

// P1.1, the example and the ends of the range.
func TestZigAndZagOfGivenNumbers(t *testing.T) {
	rows := []struct {
		n int64
		u uint64
	}{
		{0, 0}, {-1, 1}, {1, 2}, {-2, 3}, {2, 4}, {-64, 127}, {64, 128},
		{math.MaxInt32, 4294967294}, {math.MinInt32, 4294967295},
		{math.MaxInt32 + 1, 4294967296}, {math.MinInt32 - 1, 4294967297},
		{math.MaxInt64, math.MaxUint64 - 1}, {math.MinInt64, math.MaxUint64},
	}
	for _, row := range rows {
		if u := zig.Zig(row.n); u != row.u {
			t.Errorf("Zig(%d) = %d, not %d", row.n, u, row.u)
		}
		if n := zig.Zag(row.u); n != row.n {
			t.Errorf("Zag(%d) = %d, not %d", row.u, n, row.n)
		}
	}
}

// P1.1, the 32 bit calls.
func TestZig32AndZag32OfGivenNumbers(t *testing.T) {
	rows := []struct {
		n int32
		u uint32
	}{
		{0, 0}, {-1, 1}, {1, 2}, {-2, 3}, {7, 14}, {-64, 127}, {64, 128},
		{1 << 30, 1 << 31}, {-1 << 30, 1<<31 - 1},
		{math.MaxInt32, math.MaxUint32 - 1}, {math.MinInt32, math.MaxUint32},
	}
	for _, row := range rows {
		if u := zig.Zig32(row.n); u != row.u {
			t.Errorf("Zig32(%d) = %d, not %d", row.n, u, row.u)
		}
		if n := zig.Zag32(row.u); n != row.n {
			t.Errorf("Zag32(%d) = %d, not %d", row.u, n, row.n)
		}
	}
}

// P1.1, the promise's own words, over the whole range.
func TestZigIsTwiceTheNumber(t *testing.T) {
	for _, n := range numbers() {
		if u, want := zig.Zig(n), zigBySum(n); u != want {
			t.Fatalf("Zig(%d) = %d, not %d", n, u, want)
		}
		short := int32(n)
		if u, want := zig.Zig32(short), zigBySum(int64(short)); uint64(u) != want {
			t.Fatalf("Zig32(%d) = %d, not %d", short, u, want)
		}
	}
}

// P1.2, Bits: each count of digits, from its least number to its greatest one.
func TestBits(t *testing.T) {
	if n := zig.Bits(0); n != 0 {
		t.Errorf("Bits(0) = %d", n)
	}
	for digits := 1; digits <= 64; digits++ {
		least := uint64(1) << (digits - 1)
		for _, u := range []uint64{least, least | 1, least | least>>1, least + (least - 1)} {
			if n := zig.Bits(u); n != digits {
				t.Errorf("Bits(%d) = %d, not %d", u, n, digits)
			}
		}
	}
	for _, n := range numbers() {
		u := uint64(n)
		if got, want := zig.Bits(u), new(big.Int).SetUint64(u).BitLen(); got != want {
			t.Fatalf("Bits(%d) = %d, not %d", u, got, want)
		}
	}
}

// P1.2, Width: the greatest and the least number of each width, and those one beyond.
func TestWidthAtItsEdges(t *testing.T) {
	for n, want := range map[int64]int{0: 1, 1: 1, -1: 1, 63: 1, -64: 1, 64: 2, -65: 2, math.MaxInt64: 10, math.MinInt64: 10} {
		if w := zig.Width(n); w != want {
			t.Errorf("Width(%d) = %d, not %d", n, w, want)
		}
	}
	for parts := 1; parts <= 9; parts++ {
		end := int64(1) << (7*parts - 1) // the first number from 0 on that needs one part more
		rows := map[int64]int{end - 1: parts, -end: parts, end: parts + 1, -end - 1: parts + 1}
		for n, want := range rows {
			if w := zig.Width(n); w != want {
				t.Errorf("Width(%d) = %d, not %d", n, w, want)
			}
		}
	}
}

// P1.2, Width: as many parts as it takes till nothing of the Zig is left, one at least.
func TestWidthIsPartsOfSeven(t *testing.T) {
	for _, n := range numbers() {
		want := 1
		for u := zigBySum(n) / 128; u > 0; u /= 128 {
			want++
		}
		if w := zig.Width(n); w != want {
			t.Fatalf("Width(%d) = %d, not %d", n, w, want)
		}
	}
}

// P1.3, there and back, of either size.
func TestThereAndBack(t *testing.T) {
	for _, n := range numbers() {
		if back := zig.Zag(zig.Zig(n)); back != n {
			t.Fatalf("Zag(Zig(%d)) = %d", n, back)
		}
		if u := uint64(n); zig.Zig(zig.Zag(u)) != u {
			t.Fatalf("Zig(Zag(%d)) = %d", u, zig.Zig(zig.Zag(u)))
		}
		short := int32(n)
		if back := zig.Zag32(zig.Zig32(short)); back != short {
			t.Fatalf("Zag32(Zig32(%d)) = %d", short, back)
		}
		if u := uint32(n); zig.Zig32(zig.Zag32(u)) != u {
			t.Fatalf("Zig32(Zag32(%d)) = %d", u, zig.Zig32(zig.Zag32(u)))
		}
	}
}

// P1.3, a number that fits 32 bits has the same Zig of both sizes, and the same Zag comes of it.
func TestBothSizesAgree(t *testing.T) {
	for _, n := range numbers() {
		short := int32(n)
		if a, b := zig.Zig(int64(short)), uint64(zig.Zig32(short)); a != b {
			t.Fatalf("of %d Zig is %d, Zig32 is %d", short, a, b)
		}
		u := uint32(n)
		if a, b := zig.Zag(uint64(u)), int64(zig.Zag32(u)); a != b {
			t.Fatalf("of %d Zag is %d, Zag32 is %d", u, a, b)
		}
	}
}

// P1.3, a number nearer to 0 has no greater Width.
func TestWidthDoesNotFall(t *testing.T) {
	for _, n := range numbers() {
		nearer := n / 2 // rounded to 0
		if zig.Width(nearer) > zig.Width(n) {
			t.Fatalf("Width(%d) = %d, but Width(%d) = %d", nearer, zig.Width(nearer), n, zig.Width(n))
		}
		if n > 0 && zig.Width(n-1) > zig.Width(n) || n < 0 && zig.Width(n+1) > zig.Width(n) {
			t.Fatalf("the number next to %d towards 0 is wider", n)
		}
	}
}

// P1.3, of a number and the one less than its negative the Width is the same.
func TestWidthIsEven(t *testing.T) {
	for _, n := range numbers() {
		other := -1 - n
		if zig.Width(n) != zig.Width(other) {
			t.Fatalf("Width(%d) = %d, Width(%d) = %d", n, zig.Width(n), other, zig.Width(other))
		}
	}
}
