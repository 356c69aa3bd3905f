package float

import (
	"math"
	"math/bits"
)

// Split tells a finite number's sign, odd whole number and power of 2.
func Split(b uint64) (neg bool, m uint64, e int, ok bool) {
	x := value(b)
	switch {
	case math.IsNaN(x) || math.IsInf(x, 0):
		return false, 0, 0, false
	case x == 0:
		return math.Signbit(x), 0, 0, true
	}
	share, power := math.Frexp(math.Abs(x))
	m = uint64(share * (1 << 53)) // a whole number: a share has at most 53 bits
	low := bits.TrailingZeros64(m)
	return math.Signbit(x), m >> low, power - 53 + low, true
}

// Scale tells a number times a power of 2, rounded once.
func Scale(b uint64, n int) uint64 {
	const enough = 2200 // from the least number to beyond the greatest, and back: more changes nothing, but could wrap
	return pattern[uint64](math.Ldexp(value(b), min(max(n, -enough), enough)))
}
