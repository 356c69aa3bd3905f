package code

import "math/bits"

// word is a column's value: a float's bits, of either width.
type word interface{ uint64 | uint32 }

// width tells how many bits a value has.
func width[T word]() int { return length(uint64(^T(0))) }

// length tells how many bits hold a number, none of 0.
func length(x uint64) int { return bits.Len64(x) }

// wide tells whether a value is a binary64's bits.
func wide[T word]() bool { return width[T]() == 64 }

// signed reads a value as a signed number of its width.
func signed[T word](v T) int64 {
	if wide[T]() {
		return int64(v)
	}
	return int64(int32(v))
}
