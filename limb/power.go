package limb

import (
	"math/bits"

	"fathom/api"
)

// Power tells base to the n-th.
func Power(base uint32, n int) (api.Nat, api.Errno) {
	switch {
	case n < 0:
		return nil, api.ErrLimbShift
	case n == 0 || base == 1:
		return From(1), api.OK
	case base == 0:
		return nil, api.OK
	case n >= maxBits: // so is 2 to the n-th: no need to work it out
		return nil, api.ErrLimbLong
	}
	return raise(From(uint64(base)), n)
}

// raise squares, and multiplies once more where n has a 1. No step is above the answer, so one that is too long says that the answer is, too.
func raise(base api.Nat, n int) (power api.Nat, e api.Errno) {
	power = From(1)
	top := bits.Len(uint(n)) - 1
	for i := range top + 1 {
		if power, e = Mul(power, power); e != api.OK {
			return nil, e
		}
		if n>>(top-i)&1 == 0 {
			continue
		}
		if power, e = Mul(power, base); e != api.OK {
			return nil, e
		}
	}
	return power, api.OK
}

// Root tells the square root, rounded down, and whether it is exact.
func Root(a api.Nat) (r api.Nat, exact bool, e api.Errno) {
	if e := Check(a); e != api.OK {
		return nil, false, e
	}
	if len(a) == 0 {
		return nil, true, api.OK
	}
	root := nearRoot(a)
	order := compare(product(root, root), a)
	if order > 0 {
		root = difference(root, From(1))
		order = compare(product(root, root), a)
	}
	return fresh(root), order == 0, api.OK
}

// nearRoot tells the square root, rounded down, or one more; a is not 0. Each step is Newton's, over a's upper bits alone, and doubles how many bits are known: behind it stands the root, rounded down, or one more, of a without its lowest 2 (half - known) bits.
func nearRoot(a []uint32) []uint32 {
	half := (Len(a) - 1) / 2
	steps := bits.Len(uint(half))
	root := []uint32{1}
	known := 0
	for i := range steps {
		before := known
		known = half >> (steps - 1 - i)
		upper := shiftDown(a, 2*half-before-known+1)
		more, _ := divide(upper, root)
		root = sum(shiftUp(root, known-before-1), more)
	}
	return root
}
