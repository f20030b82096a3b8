// Package num: sums that are asked, and draws.
package num

import "math"

// drawOfZero stands in for 0, which exclusive or would leave as it is for ever.
const drawOfZero = 2463534242

// Add answers a + b; false, if that is no int64.
func Add(a, b int64) (int64, bool) {
	sum := a + b
	// Only parts of one sign can wrap round, and the sum has the other sign then.
	if (a^sum)&(b^sum) < 0 {
		return 0, false
	}
	return sum, true
}

// Mul answers a times b; false, if that is no int64.
func Mul(a, b int64) (int64, bool) {
	if b == 0 {
		return 0, true
	}
	product := a * b
	// The division back does not tell of the least number times -1: it wraps round as well.
	if product/b != a || (a == math.MinInt64 && b == -1) {
		return 0, false
	}
	return product, true
}

// Draw answers the number that is drawn behind x; it is never 0.
func Draw(x uint32) uint32 {
	if x == 0 {
		return drawOfZero
	}
	x ^= x << 13
	x ^= x >> 17
	x ^= x << 5
	return x
}

// Pick answers x modulo n; 0, if n is below 1.
func Pick(x uint32, n int) int {
	if n < 1 {
		return 0
	}
	// In 64 digits, for an int may have too few for x, and a uint32 for n.
	return int(uint64(x) % uint64(n))
}
