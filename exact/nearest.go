package exact

import (
	"math/bits"

	"fathom/api"
)

// layout is a width of floats.
type layout struct {
	bits  int    // of a normal number, the one that is not written too
	least int    // the power of 2 of the least number
	inf   uint64 // the pattern of +Inf
	sign  uint64
}

func wide() layout   { return layout{bits: 53, least: leastPower, inf: api.Inf64, sign: api.Neg64} }
func narrow() layout { return layout{bits: 24, least: -149, inf: api.Inf32, sign: api.Neg32} }

// leading is a number from 0 on by its leading bits: head * 2^e, or, with more, between that and (head + 1) * 2^e. The head is 0, and there is no more, or it has at least headBits - 1 bits: more than any float has.
type leading struct {
	head uint64
	more bool
	e    int
}

const headBits = 64

// nearest tells the pattern of the nearest float.
func (l layout) nearest(neg bool, x leading) uint64 {
	pattern := l.unsigned(x)
	if neg {
		pattern |= l.sign
	}
	return pattern
}

// unsigned counts in steps of the float's last bit. What is carried over from the fraction runs into the exponent's field, as it should, and from the last field into infinity.
func (l layout) unsigned(x leading) uint64 {
	if x.head == 0 {
		return 0
	}
	const beyond = 1 << 11 // no width has so many fields
	step := max(x.e+bits.Len64(x.head)-l.bits, l.least)
	field := uint64(min(step-l.least, beyond))
	return min(x.without(step-x.e)+field<<(l.bits-1), l.inf)
}

// without tells a number without its lowest bits, rounded to the nearest, of two to the even one. At least one bit goes.
func (x leading) without(low int) uint64 {
	if low > headBits { // less than half of the step
		return 0
	}
	kept, half := x.head>>low, uint64(1)<<(low-1)
	gone := x.head & (half<<1 - 1)
	if gone > half || gone == half && (x.more || kept&1 == 1) {
		kept++
	}
	return kept
}
