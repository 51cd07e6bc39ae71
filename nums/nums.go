// Package nums is layer 1: see shared/doc/01-nums.md.
package nums

import (
	"math/bits"

	"lighter/api"
)

// most is the greatest number that is within.
const most = 1 << 62

// Add is a sum; false: it, or one of both, is not within.
func Add(a, b int) (n int, ok bool) {
	return total(a, b)
}

// Sub is a difference; false: it, or one of both, is not within.
func Sub(a, b int) (n int, ok bool) {
	if !within(a) || !within(b) || a < b {
		return 0, false
	}
	return a - b, true
}

// Mul is a product; false: it, or one of both, is not within.
func Mul(a, b int) (n int, ok bool) {
	if !within(a) || !within(b) {
		return 0, false
	}
	// The product itself may leave the integers' range, so b is held against the greatest factor that a may have.
	if a > 0 && b > most/a {
		return 0, false
	}
	return a * b, true
}

// Sum is that of all; false: it, or one of them, is not within.
func Sum(l []int) (n int, ok bool) {
	return total(l...)
}

// Blocks is how many sectors hold so many bytes; 0, if these are below 1.
func Blocks(bytes int) int {
	if bytes < 1 {
		return 0
	}
	// Rounding up by a sum would leave the integers' range for the greatest numbers.
	return (bytes-1)/api.SectorSize + 1
}

// Share is how many percent of the whole a part is, rounded down, at most 100; 0, if there is no whole, or part is below 0.
func Share(part, whole int) int {
	if whole < 1 || part < 0 {
		return 0
	}
	if part >= whole {
		return 100
	}
	// Part is below whole, so the quotient is below 100, which Div64 needs to be sure of.
	high, low := bits.Mul64(uint64(part), 100)
	percent, _ := bits.Div64(high, low, uint64(whole))
	return int(percent)
}

// within tells whether a number is from 0 to the greatest one.
func within(n int) bool {
	return n >= 0 && n <= most
}

// total is the sum of all that is handed in; false: it, or one of these, is not within.
func total(l ...int) (n int, ok bool) {
	for _, x := range l {
		// What is left up to the greatest number can't leave the integers' range; the sum of two can.
		if !within(x) || x > most-n {
			return 0, false
		}
		n += x
	}
	return n, true
}
