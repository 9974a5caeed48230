package promote_test

import (
	"math"
	"math/big"
	"slices"
	"testing"

	"avocet/promote"
)

// random tells numbers that hang on no rule; the same each time.
func random(seed uint64) func() uint64 {
	return func() uint64 {
		seed += 0x9e3779b97f4a7c15
		x := seed
		x = (x ^ x>>30) * 0xbf58476d1ce4e5b9
		x = (x ^ x>>27) * 0x94d049bb133111eb
		return x ^ x>>31
	}
}

// numbers are those near 0; near each power of two, where digits begin to be dropped, and where rounding up reaches the next exponent; near the halves of either size, with a last digit of 0 and of 1; the ends of the range; any others.
func numbers() []int64 {
	var out []int64
	add := func(u uint64) {
		for off := range uint64(5) {
			out = append(out, int64(u+off-2), -int64(u+off-2))
		}
	}
	for n := range uint64(3000) {
		out = append(out, int64(n), -int64(n))
	}
	some := random(5)
	for power := range 64 {
		least := uint64(1) << power
		add(least)
		for _, fraction := range []int{23, 52} {
			if power <= fraction {
				continue
			}
			unit := uint64(1) << (power - fraction) // what the last digit counts that is left
			add(least - unit/4)
			for _, digits := range []uint64{0, 1, 2, 3, 1<<fraction - 2, 1<<fraction - 1, some() % (1 << fraction), some() % (1 << fraction)} {
				add(least + digits*unit)
				add(least + digits*unit + unit/2)
			}
		}
	}
	add(1 << 63)
	for range 30000 {
		u := some()
		out = append(out, int64(u)>>(u%64))
	}
	return out
}

// rounded is what P5.1 says, worked out by numbers that have no range.
func rounded(u uint64, drop uint) uint64 {
	unit := new(big.Int).Lsh(big.NewInt(1), drop)
	left, dropped := new(big.Int).QuoRem(new(big.Int).SetUint64(u), unit, new(big.Int))
	if side := dropped.Lsh(dropped, 1).Cmp(unit); side > 0 || side == 0 && left.Bit(0) == 1 {
		left.Add(left, big.NewInt(1))
	}
	return left.Uint64()
}

// nearest is the number, of so many digits, that is nearest to n; of two that are as near the one whose last digit is 0.
func nearest(n int64, digits uint) *big.Float {
	return new(big.Float).SetPrec(digits).SetMode(big.ToNearestEven).SetInt64(n)
}

// whole is what P5.4 says, worked out by numbers that have no range.
func whole(d uint64) (int64, bool) {
	f := math.Float64frombits(d)
	if math.IsInf(f, 0) || math.IsNaN(f) {
		return 0, false
	}
	x := big.NewFloat(f)
	if !x.IsInt() {
		return 0, false
	}
	n, _ := x.Int(nil)
	if !n.IsInt64() {
		return 0, false
	}
	return n.Int64(), true
}

// checkRound holds Round of one number against what is wanted.
func checkRound(t *testing.T, u uint64, drop uint, want uint64) {
	t.Helper()
	if got := promote.Round(u, drop); got != want {
		t.Fatalf("Round(%#x, %d) = %#x, not %#x", u, drop, got, want)
	}
}

// P5.1: ordinary numbers, halves with a last digit of 0 and of 1, what is just less and just more, and rounding that carries.
func TestRoundOfGivenNumbers(t *testing.T) {
	rows := []struct {
		u    uint64
		drop uint
		want uint64
	}{
		{0, 1, 0}, {1, 1, 0}, {2, 1, 1}, {3, 1, 2}, {4, 1, 2}, {5, 1, 2}, {6, 1, 3}, {7, 1, 4},
		{1, 2, 0}, {2, 2, 0}, {3, 2, 1}, {5, 2, 1}, {6, 2, 2}, {7, 2, 2}, {9, 2, 2}, {10, 2, 2}, {11, 2, 3}, {13, 2, 3}, {14, 2, 4}, {15, 2, 4},
		{0x17, 4, 1}, {0x18, 4, 2}, {0x19, 4, 2}, {0x27, 4, 2}, {0x28, 4, 2}, {0x29, 4, 3}, {0xff, 4, 16}, {0xff, 8, 1}, {0x80, 8, 0}, {0x81, 8, 1}, {0xff, 9, 0}, {0x100, 9, 0}, {0x101, 9, 1},
		{math.MaxUint64, 1, 1 << 63}, {math.MaxUint64 - 1, 1, 1<<63 - 1}, {math.MaxUint64, 11, 1 << 53}, {math.MaxUint64, 62, 4}, {math.MaxUint64, 63, 2},
		{1 << 63, 63, 1}, {1<<63 - 1, 63, 1}, {1<<62 + 1, 63, 1}, {1 << 62, 63, 0}, {1<<62 - 1, 63, 0}, {1<<63 + 1<<62 - 1, 63, 1}, {1<<63 + 1<<62, 63, 2}, {1<<63 + 1<<62 + 1, 63, 2},
	}
	for _, row := range rows {
		checkRound(t, row.u, row.drop, row.want)
	}
}

// P5.1: no digits are dropped.
func TestRoundOfNoDigits(t *testing.T) {
	some := random(1)
	for _, u := range edges() {
		checkRound(t, u, 0, u)
	}
	for range 1000 {
		u := some()
		checkRound(t, u, 0, u)
	}
}

// edges are the ends of the range, and what is next to its half.
func edges() []uint64 {
	return []uint64{0, 1, 2, 3, 1<<62 + 1, 1<<63 - 1, 1 << 63, 1<<63 + 1, math.MaxUint64 - 1, math.MaxUint64}
}

// P5.1: just as many digits are dropped as there are: 0 is left, and is rounded up by more than half of 2^64, but not by half, as it is even.
func TestRoundOfAllDigits(t *testing.T) {
	const half = 1 << 63
	for _, u := range []uint64{0, 1, 2, 3, half / 2, half/2 + 1, half - 2, half - 1, half} {
		checkRound(t, u, 64, 0)
	}
	for _, u := range []uint64{half + 1, half + 2, half + half/2, math.MaxUint64 - 1, math.MaxUint64} {
		checkRound(t, u, 64, 1)
	}
	some := random(6)
	for range 1000 {
		u := some()
		checkRound(t, u%half, 64, 0)
		checkRound(t, u%(half-1)+half+1, 64, 1)
	}
}

// P5.1: more digits are dropped than there are: what is dropped is never more than half, and 0 is even.
func TestRoundOfMoreThanAllDigits(t *testing.T) {
	some := random(7)
	us := edges()
	for range 1000 {
		us = append(us, some())
	}
	for _, u := range us {
		for _, drop := range []uint{65, 66, 67, 127, 128, 129, 255, 256, 1 << 16, 1 << 31, math.MaxUint32, 1 << 32, 1<<32 + 1, 1<<32 + 64, 1 << 63, 1<<63 + 64, math.MaxUint - 1, math.MaxUint} {
			checkRound(t, u, drop, 0)
		}
		for drop := uint(64); drop < 130; drop++ {
			checkRound(t, u, drop, rounded(u, drop))
		}
	}
}

// P5.1: for each count of digits, all of them too, halves and what is next to them, behind a last digit of 0 and of 1, and any numbers.
func TestRoundOfEachCount(t *testing.T) {
	some := random(2)
	for drop := uint(1); drop <= 64; drop++ {
		half := uint64(1) << (drop - 1)
		last := half - 1 + half // the greatest that may be dropped
		most := uint64(math.MaxUint64) >> drop
		for _, left := range []uint64{0, 1, 2, 3, some(), some() | 1, most - 1, most} {
			left &= most
			least := left << drop
			checkRound(t, least, drop, left)
			checkRound(t, least+half-1, drop, left)
			checkRound(t, least+half, drop, left+left%2)
			if drop > 1 { // one digit is never more than half
				checkRound(t, least+half+1, drop, left+1)
				checkRound(t, least+last, drop, left+1)
			}
		}
		for range 500 {
			u := some()
			u >>= some() % 64
			checkRound(t, u, drop, rounded(u, drop))
		}
	}
}

// P5.2: the chapter's examples, numbers that have digits dropped, and the ends of the range.
func TestDoubleAndFloatOfGivenNumbers(t *testing.T) {
	rows := []struct {
		n      int64
		double uint64
		float  uint32
	}{
		{0, 0, 0}, {1, 0x3ff0000000000000, 0x3f800000}, {-1, 0xbff0000000000000, 0xbf800000}, {2, 0x4000000000000000, 0x40000000}, {3, 0x4008000000000000, 0x40400000}, {-7, 0xc01c000000000000, 0xc0e00000}, {1000000, 0x412e848000000000, 0x49742400},
		{16777215, 0x416fffffe0000000, 0x4b7fffff}, {16777216, 0x4170000000000000, 0x4b800000}, {16777217, 0x4170000010000000, 0x4b800000}, {16777218, 0x4170000020000000, 0x4b800001}, {16777219, 0x4170000030000000, 0x4b800002}, {-16777217, 0xc170000010000000, 0xcb800000}, {-16777219, 0xc170000030000000, 0xcb800002},
		{33554431, 0x417ffffff0000000, 0x4c000000}, {33554433, 0x4180000008000000, 0x4c000000}, {33554434, 0x4180000010000000, 0x4c000000}, {33554435, 0x4180000018000000, 0x4c000001}, {33554438, 0x4180000030000000, 0x4c000002},
		{math.MaxInt32, 0x41dfffffffc00000, 0x4f000000}, {math.MinInt32, 0xc1e0000000000000, 0xcf000000},
		{1<<53 - 1, 0x433fffffffffffff, 0x5a000000}, {1 << 53, 0x4340000000000000, 0x5a000000}, {1<<53 + 1, 0x4340000000000000, 0x5a000000}, {1<<53 + 2, 0x4340000000000001, 0x5a000000}, {1<<53 + 3, 0x4340000000000002, 0x5a000000}, {1<<54 - 1, 0x4350000000000000, 0x5a800000}, {-1<<53 - 1, 0xc340000000000000, 0xda000000}, {-1<<53 - 3, 0xc340000000000002, 0xda000000},
		{math.MaxInt64, 0x43e0000000000000, 0x5f000000}, {math.MaxInt64 - 511, 0x43e0000000000000, 0x5f000000}, {math.MaxInt64 - 512, 0x43dfffffffffffff, 0x5f000000}, {math.MaxInt64 - 1<<38, 0x43dffffff0000000, 0x5effffff}, {math.MaxInt64 - 1<<38 + 1, 0x43dffffff0000000, 0x5f000000},
		{math.MinInt64, 0xc3e0000000000000, 0xdf000000}, {math.MinInt64 + 1, 0xc3e0000000000000, 0xdf000000}, {math.MinInt64 + 512, 0xc3e0000000000000, 0xdf000000}, {math.MinInt64 + 513, 0xc3dfffffffffffff, 0xdf000000},
	}
	for _, row := range rows {
		if d := promote.Double(row.n); d != row.double {
			t.Errorf("Double(%d) = %016x, not %016x", row.n, d, row.double)
		}
		if f := promote.Float(row.n); f != row.float {
			t.Errorf("Float(%d) = %08x, not %08x", row.n, f, row.float)
		}
	}
}

// P5.2: the promise's words, and the library's own numbers.
func TestDoubleAndFloatAreNearest(t *testing.T) {
	for _, n := range numbers() {
		double, _ := nearest(n, 53).Float64()
		if d := promote.Double(n); d != math.Float64bits(double) || d != math.Float64bits(float64(n)) {
			t.Fatalf("Double(%d) = %016x, not %016x", n, d, math.Float64bits(double))
		}
		float, _ := nearest(n, 24).Float32()
		if f := promote.Float(n); f != math.Float32bits(float) || f != math.Float32bits(float32(n)) {
			t.Fatalf("Float(%d) = %08x, not %08x", n, f, math.Float32bits(float))
		}
	}
}

// P5.2: no number of the same size is nearer, and one that is as near has a last digit of 1.
func TestNoneIsNearer(t *testing.T) {
	far := func(n int64, x float64) *big.Float {
		gap := new(big.Float).SetPrec(2000).SetInt64(n)
		return gap.Abs(gap.Sub(gap, big.NewFloat(x)))
	}
	for place, n := range numbers() {
		if n == 0 || place%7 != 0 {
			continue
		}
		d, f := promote.Double(n), promote.Float(n)
		for _, step := range []uint64{1, math.MaxUint64} {
			other := far(n, math.Float64frombits(d+step))
			if side := far(n, math.Float64frombits(d)).Cmp(other); side > 0 || side == 0 && d%2 == 1 {
				t.Fatalf("Double(%d) = %016x, but %016x is nearer", n, d, d+step)
			}
			next := f + uint32(step)
			other = far(n, float64(math.Float32frombits(next)))
			if side := far(n, float64(math.Float32frombits(f))).Cmp(other); side > 0 || side == 0 && f%2 == 1 {
				t.Fatalf("Float(%d) = %08x, but %08x is nearer", n, f, next)
			}
		}
	}
}

// P5.3: exponents of noughts and of ones, their edges, and numbers between, with either sign.
func TestWideOfGivenNumbers(t *testing.T) {
	rows := []struct {
		f uint32
		d uint64
	}{
		{0, 0}, {0x3f800000, 0x3ff0000000000000}, {0x3fc00000, 0x3ff8000000000000}, {0x40490fdb, 0x400921fb60000000}, {0x3dcccccd, 0x3fb99999a0000000}, {0x00ffffff, 0x381fffffe0000000}, {0x7f000000, 0x47e0000000000000},
		{1, 0x36a0000000000000}, {2, 0x36b0000000000000}, {3, 0x36b8000000000000}, {4, 0x36c0000000000000}, {0x400000, 0x3800000000000000}, {0x400001, 0x3800000040000000}, {0x7fffff, 0x380fffffc0000000}, // the exponent is 0
		{0x800000, 0x3810000000000000}, {0x800001, 0x3810000020000000}, // it is 1
		{0x7f7fffff, 0x47efffffe0000000},                                                                                                       // the greatest number
		{0x7f800000, 0x7ff0000000000000}, {0x7f800001, 0x7ff0000020000000}, {0x7f812345, 0x7ff02468a0000000}, {0x7fbfffff, 0x7ff7ffffe0000000}, // an infinity; none
		{0x7fc00000, 0x7ff8000000000000}, {0x7fc00001, 0x7ff8000020000000}, {0x7fffffff, 0x7fffffffe0000000},
	}
	for _, row := range rows {
		for _, sign := range []uint64{0, 1} {
			f, want := row.f|uint32(sign)<<31, row.d|sign<<63
			if d := promote.Wide(f); d != want {
				t.Errorf("Wide(%08x) = %016x, not %016x", f, d, want)
			}
		}
	}
}

// checkWide holds Wide of one number against the promise's words.
func checkWide(t *testing.T, f uint32) {
	want := math.Float64bits(float64(math.Float32frombits(f)))
	if f>>23&0xff == 0xff {
		want = uint64(f>>31)<<63 | 0x7ff<<52 | uint64(f&0x7fffff)<<29
	}
	if d := promote.Wide(f); d != want {
		t.Fatalf("Wide(%08x) = %016x, not %016x", f, d, want)
	}
}

// P5.3: all numbers whose exponent is 0, and of each exponent and sign many, with the first and the last ones.
func TestWideIsTheSameNumber(t *testing.T) {
	for f := range uint32(1 << 23) {
		checkWide(t, f)
		checkWide(t, f|1<<31)
	}
	some := random(3)
	for head := range uint32(512) {
		for n := range uint32(40) {
			checkWide(t, head<<23|n)
			checkWide(t, head<<23|(1<<23-1-n))
		}
		for range 2000 {
			checkWide(t, head<<23|uint32(some()%(1<<23)))
		}
		for place := range 23 {
			checkWide(t, head<<23|1<<place)
		}
	}
}

// P5.4: whole numbers, those with a part behind the point, -0, and those that int64 does not have.
func TestWholeOfGivenNumbers(t *testing.T) {
	for f, want := range map[float64]int64{0: 0, 1: 1, -1: -1, 2: 2, 3: 3, -7: -7, 1e6: 1000000, 1e18: 1e18, 1 << 52: 1 << 52, 1<<53 - 1: 1<<53 - 1, 1 << 53: 1 << 53, 1<<53 + 2: 1<<53 + 2, -(1<<53 + 2): -(1<<53 + 2), 1 << 62: 1 << 62, 1<<63 - 1024: 1<<63 - 1024, -1 << 63: -1 << 63, -(1<<63 - 1024): -(1<<63 - 1024)} {
		if n, ok := promote.Whole(math.Float64bits(f)); n != want || !ok {
			t.Errorf("Whole of %g: %d, %t, not %d", f, n, ok, want)
		}
	}
	if n, ok := promote.Whole(1 << 63); n != 0 || !ok {
		t.Errorf("Whole of -0: %d, %t", n, ok)
	}
	for _, f := range []float64{0.5, -0.5, 1.5, -1.5, 0.1, 1e-300, 1<<51 + 0.5, 1<<52 - 0.5, -(1<<52 - 0.5), math.Nextafter(1, 0), math.Nextafter(1, 2), math.SmallestNonzeroFloat64, 0x1p-1022, 1 << 63, 1<<63 + 2048, -(1<<63 + 2048), 1 << 64, -1 << 64, 1e19, 1e300, math.MaxFloat64, -math.MaxFloat64, math.Inf(1), math.Inf(-1), math.NaN()} {
		if n, ok := promote.Whole(math.Float64bits(f)); n != 0 || ok {
			t.Errorf("Whole of %g: %d, %t", f, n, ok)
		}
	}
}

// P5.4: of each exponent and sign, digits that end at each place, and any.
func TestWholeOfEachExponent(t *testing.T) {
	some := random(4)
	check := func(d uint64) {
		t.Helper()
		want, is := whole(d)
		if n, ok := promote.Whole(d); n != want || ok != is {
			t.Fatalf("Whole(%016x) = %d, %t, not %d, %t", d, n, ok, want, is)
		}
	}
	for head := range uint64(4096) {
		check(head << 52)
		check(head<<52 | (1<<52 - 1))
		for place := range 52 {
			check(head<<52 | 1<<place)
			check(head<<52 | some()%(1<<52)>>place<<place)
		}
	}
}

// P5.5: neither falls when the number rises.
func TestNoneFalls(t *testing.T) {
	rising := numbers()
	slices.Sort(rising)
	for i, n := range rising[1:] {
		lower := rising[i]
		if math.Float64frombits(promote.Double(lower)) > math.Float64frombits(promote.Double(n)) {
			t.Fatalf("Double(%d) is above Double(%d)", lower, n)
		}
		if math.Float32frombits(promote.Float(lower)) > math.Float32frombits(promote.Float(n)) {
			t.Fatalf("Float(%d) is above Float(%d)", lower, n)
		}
	}
}

// P5.5: Wide of Float is Double, of each number that 24 digits hold.
func TestWideOfFloatIsDouble(t *testing.T) {
	for n := int64(-1 << 24); n <= 1<<24; n++ {
		if f, d := promote.Float(n), promote.Double(n); promote.Wide(f) != d {
			t.Fatalf("Wide(Float(%d)) = %016x, not %016x", n, promote.Wide(f), d)
		}
	}
	if promote.Wide(promote.Float(1<<24+1)) == promote.Double(1<<24+1) {
		t.Error("a number beyond has the same bits of both")
	}
}

// P5.5: Whole of Double is the number, of those that 53 digits hold; of others it is the nearest one, if int64 has it.
func TestWholeOfDouble(t *testing.T) {
	for _, n := range append(numbers(), 1<<53, -1<<53) {
		back, ok := promote.Whole(promote.Double(n))
		want, acc := nearest(n, 53).Int64()
		if is := acc == big.Exact; ok != is || is && back != want || n >= -1<<53 && n <= 1<<53 && back != n {
			t.Fatalf("Whole(Double(%d)) = %d, %t", n, back, ok)
		}
	}
	for n := int64(-100000); n <= 100000; n++ {
		for _, n := range []int64{n, n + 1<<53 - 100000, n - 1<<53 + 100000} {
			if back, ok := promote.Whole(promote.Double(n)); back != n || !ok {
				t.Fatalf("Whole(Double(%d)) = %d, %t", n, back, ok)
			}
		}
	}
}
