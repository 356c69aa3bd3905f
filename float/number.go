package float

import (
	"math"

	"fathom/api"
)

// value tells the float that is reckoned with: each number of either width is a float64.
func value[T Word](b T) float64 {
	if wide[T]() {
		return math.Float64frombits(uint64(b))
	}
	return float64(math.Float32frombits(uint32(b)))
}

// pattern tells the nearest float's bits, and of every NaN those of the one.
func pattern[T Word](x float64) T {
	switch {
	case math.IsNaN(x):
		return layoutOf[T]().theNaN()
	case wide[T]():
		return T(math.Float64bits(x))
	}
	return T(narrowed(x))
}

// narrowed tells the nearest binary32 of a number. What the language makes of one that is too great is not said: none that is above the greatest binary32 is converted.
func narrowed(x float64) uint32 {
	const beyond = 0x1.ffffffp127 // the greatest and half a step: of two the infinity is the even one
	size := math.Abs(x)
	if size >= beyond {
		sign := uint32(math.Float64bits(x)>>32) & api.Neg32
		return sign | api.Inf32
	}
	return math.Float32bits(float32(math.Copysign(min(size, math.MaxFloat32), x)))
}

// Cmp compares numbers; false: one is NaN.
func Cmp[T Word](a, b T) (int, bool) {
	x, y := value(a), value(b)
	switch {
	case x < y:
		return -1, true
	case x > y:
		return 1, true
	}
	return 0, x == y
}

// Narrow rounds a binary64 to a binary32.
func Narrow(b uint64) uint32 {
	if layoutOf[uint64]().isNaN(b) { // a float variable says nothing of payloads
		return uint32(b>>32)&api.Neg32 | api.NaN32 | uint32(b>>29)&(1<<22-1)
	}
	return pattern[uint32](value(b))
}

// Widen tells the same number as a binary64.
func Widen(f uint32) uint64 {
	if layoutOf[uint32]().isNaN(f) { // a conversion would make a signalling one quiet
		return uint64(f&api.Neg32)<<32 | api.Inf64 | uint64(f&(1<<23-1))<<29
	}
	return pattern[uint64](value(f))
}

// FromInt tells the nearest binary64 of a whole number.
func FromInt(n int64) uint64 { return math.Float64bits(float64(n)) }

// FromUint tells the nearest binary64 of a whole number without a sign.
func FromUint(n uint64) uint64 { return math.Float64bits(float64(n)) }

// FromInt32 tells the nearest binary32: by way of a float64 it would be rounded twice.
func FromInt32(n int64) uint32 { return math.Float32bits(float32(n)) }
