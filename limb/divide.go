package limb

import (
	"math/bits"

	"fathom/api"
)

// DivMod tells the whole quotient, and what is left.
func DivMod(a, b api.Nat) (q, r api.Nat, e api.Errno) {
	if e := checkBoth(a, b); e != api.OK {
		return nil, nil, e
	}
	if len(b) == 0 {
		return nil, nil, api.ErrLimbZero
	}
	whole, rest := divide(a, b)
	return fresh(whole), fresh(rest), api.OK
}

// divide tells quotient and remainder of numbers, b not 0; what it tells may lie where a lies.
func divide(a, b []uint32) (q, r []uint32) {
	if compare(a, b) < 0 {
		return nil, a
	}
	if len(b) == 1 {
		q = fresh(a)
		rest := [1]uint32{shrink(q, b[0])}
		return trim(q), trim(rest[:])
	}
	return divideLong(a, b)
}

// shrink divides work by one limb, and tells what is left.
func shrink(work []uint32, by uint32) uint32 {
	rest := uint64(0)
	for i := range len(work) {
		j := len(work) - 1 - i
		rest = rest<<limbBits | uint64(work[j])
		work[j] = uint32(rest / uint64(by))
		rest %= uint64(by)
	}
	return uint32(rest)
}

// divideLong divides by two limbs or more, a not below b, as on paper. Both are shifted until b's highest bit is 1: then a guess at a digit by the topmost limbs is off by one at most.
func divideLong(a, b []uint32) (q, r []uint32) {
	up := bits.LeadingZeros32(b[len(b)-1])
	rest := make([]uint32, len(a)+1)
	shiftInto(rest, a, up)
	by := make([]uint32, len(b))
	shiftInto(by, b, up)
	q = make([]uint32, len(a)-len(b)+1)
	for i := range len(q) {
		j := len(q) - 1 - i
		end := j + len(by) + 1
		q[j] = takeOut(rest[j:end:end], by)
	}
	return trim(q), trim(shiftDown(rest, up))
}

// takeOut takes by out of part as often as it goes, and tells how often. (part is one limb longer than by, and below by times 2^32.)
func takeOut(part, by []uint32) uint32 {
	f := guess(part, by)
	if subTimes(part, by, f) {
		f--
		addInto(part, by)
	}
	return f
}

// guess tells how often by goes into part, or one more, from three limbs of part and two of by.
func guess(part, by []uint32) uint32 {
	n := len(by)
	top, next := uint64(by[n-1]), uint64(by[n-2])
	high := uint64(part[n])<<limbBits | uint64(part[n-1])
	f, rest := high/top, high%top
	for rest <= limbTop && (f > limbTop || f*next > rest<<limbBits|uint64(part[n-2])) {
		f--
		rest += top
	}
	return uint32(f)
}

// subTimes takes f times by from part, which is one limb longer, and tells whether that was too much.
func subTimes(part, by []uint32, f uint32) bool {
	carry, borrow := uint64(0), uint64(0)
	for i := range len(part) {
		carry += limbAt(by, i) * uint64(f)
		x := uint64(part[i]) - carry&limbTop - borrow
		part[i] = uint32(x)
		borrow = x >> limbBits & 1
		carry >>= limbBits
	}
	return borrow != 0
}
