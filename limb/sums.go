package limb

import "fathom/api"

// Add tells the sum.
func Add(a, b api.Nat) (api.Nat, api.Errno) {
	if e := checkBoth(a, b); e != api.OK {
		return nil, e
	}
	return tell(sum(a, b))
}

// Sub tells the difference, if it is not below 0.
func Sub(a, b api.Nat) (api.Nat, api.Errno) {
	if e := checkBoth(a, b); e != api.OK {
		return nil, e
	}
	if compare(a, b) < 0 {
		return nil, api.ErrLimbBelow
	}
	return tell(difference(a, b))
}

// Mul tells the product.
func Mul(a, b api.Nat) (api.Nat, api.Errno) {
	if e := checkBoth(a, b); e != api.OK {
		return nil, e
	}
	// A product has as many limbs as both together, or one less (of 0 none, but then the other one has not so many): what is too long for sure is not worked out.
	if len(a)+len(b)-1 > api.MaxLimbs {
		return nil, api.ErrLimbLong
	}
	return tell(product(a, b))
}

func sum(a, b []uint32) []uint32 {
	if len(a) < len(b) {
		a, b = b, a
	}
	work := make([]uint32, len(a)+1)
	copy(work, a)
	addInto(work, b)
	return trim(work)
}

// difference tells a less b, which is not above a.
func difference(a, b []uint32) []uint32 {
	work := make([]uint32, len(a))
	copy(work, a)
	borrow := uint64(0)
	for i := range len(work) {
		x := uint64(work[i]) - limbAt(b, i) - borrow
		work[i] = uint32(x)
		borrow = x >> limbBits & 1
	}
	return trim(work)
}

func product(a, b []uint32) []uint32 {
	work := make([]uint32, len(a)+len(b))
	for i := range len(a) {
		end := i + len(b)
		work[end] = addTimes(work[i:end:end], b, a[i])
	}
	return trim(work)
}

// limbAt tells a limb of b, or 0 above them all.
func limbAt(b []uint32, i int) uint64 {
	if i < len(b) {
		return uint64(b[i])
	}
	return 0
}

// addInto adds b, which is no longer than work, to work; what goes over on top is dropped.
func addInto(work, b []uint32) {
	carry := uint64(0)
	for i := range len(work) {
		carry += uint64(work[i]) + limbAt(b, i)
		work[i] = uint32(carry)
		carry >>= limbBits
	}
}

// addTimes adds f times b to work, which is as long as b, and tells what goes over. (A product of two limbs leaves just room for two more of them in 64 bits.)
func addTimes(work, b []uint32, f uint32) uint32 {
	carry := uint64(0)
	for i := range len(b) {
		carry += uint64(b[i])*uint64(f) + uint64(work[i])
		work[i] = uint32(carry)
		carry >>= limbBits
	}
	return uint32(carry)
}
