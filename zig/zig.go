// Package zig is layer 1: whole numbers with a sign as ones without, so that small ones stay small. See shared/doc/01-zig.md.
package zig

// partDigits is how many binary digits a part of a number holds.
const partDigits = 7

// Zig makes a number one without a sign: 0, -1, 1, -2 become 0, 1, 2, 3.
func Zig(n int64) uint64 {
	// The shift to the right spreads the sign over all digits: twice n wraps round, and is turned if n is below 0.
	return uint64(n)<<1 ^ uint64(n>>63)
}

// Zag tells the number of which u is the Zig.
func Zag(u uint64) int64 {
	return int64(u>>1 ^ -(u & 1))
}

// Zig32 is Zig of 32 bits.
func Zig32(n int32) uint32 {
	return uint32(n)<<1 ^ uint32(n>>31)
}

// Zag32 is Zag of 32 bits.
func Zag32(u uint32) int32 {
	return int32(u>>1 ^ -(u & 1))
}

// Bits tells how many binary digits u has, without noughts ahead.
func Bits(u uint64) int {
	count := 0
digits:
	for {
		switch {
		case u == 0:
			break digits
		case u > 0xff:
			// Eight digits, and at least one ahead of them: the eight count whatever they are.
			count += 8
			u >>= 8
		default:
			count++
			u >>= 1
		}
	}
	return count
}

// Width tells how many parts of seven binary digits the Zig of n needs.
func Width(n int64) int {
	// 0 has no digits, but it still needs a part to be written in.
	digits := max(Bits(Zig(n)), 1)
	return (digits + partDigits - 1) / partDigits
}
