package limb

import (
	"math/bits"

	"fathom/api"
)

// Left tells a times 2^n.
func Left(a api.Nat, n int) (api.Nat, api.Errno) {
	if e := Check(a); e != api.OK {
		return nil, e
	}
	switch {
	case n < 0:
		return nil, api.ErrLimbShift
	case len(a) == 0:
		return nil, api.OK
	case n > maxBits-Len(a): // ahead of the work: n may be as great as an int is
		return nil, api.ErrLimbLong
	}
	return tell(shiftUp(a, n))
}

// Right tells a divided by 2^n, and whether a 1 went.
func Right(a api.Nat, n int) (b api.Nat, gone bool, e api.Errno) {
	if e := Check(a); e != api.OK {
		return nil, false, e
	}
	switch {
	case n < 0:
		return nil, false, api.ErrLimbShift
	case n >= Len(a):
		return nil, len(a) > 0, api.OK
	}
	return fresh(shiftDown(a, n)), Low(a) < n, api.OK
}

// Len tells how many bits it has.
func Len(a api.Nat) int {
	if Check(a) != api.OK || len(a) == 0 {
		return 0
	}
	return limbBits*(len(a)-1) + bits.Len32(a[len(a)-1])
}

// Low tells how many noughts are below its lowest 1.
func Low(a api.Nat) int {
	if Check(a) != api.OK {
		return 0
	}
	for i := range len(a) {
		if a[i] != 0 {
			return limbBits*i + bits.TrailingZeros32(a[i])
		}
	}
	return 0
}

// Bit tells one bit.
func Bit(a api.Nat, n int) bool {
	if Check(a) != api.OK || n < 0 || n >= Len(a) {
		return false
	}
	return a[n/limbBits]>>(n%limbBits)&1 == 1
}

// shiftUp tells a number times 2^n.
func shiftUp(a []uint32, n int) []uint32 {
	whole := n / limbBits
	work := make([]uint32, whole+len(a)+1)
	shiftInto(work[whole:], a, n%limbBits)
	return trim(work)
}

// shiftInto lays a times 2^n, n below 32, into work, which has room for it.
func shiftInto(work, a []uint32, n int) {
	carry := uint64(0)
	for i := range len(work) {
		carry |= limbAt(a, i) << n
		work[i] = uint32(carry)
		carry >>= limbBits
	}
}

// shiftDown tells limbs divided by 2^n, rounded down; n is below the bits that they have room for.
func shiftDown(a []uint32, n int) []uint32 {
	kept := a[n/limbBits : len(a) : len(a)]
	work := make([]uint32, len(kept))
	for i := range len(kept) {
		pair := limbAt(kept, i+1)<<limbBits | uint64(kept[i])
		work[i] = uint32(pair >> (n % limbBits))
	}
	return trim(work)
}
