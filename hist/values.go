package hist

import (
	"slices"

	"fathom/api"
	"fathom/exact"
	"fathom/float"
	"fathom/limb"
)

// Exact tells the value of a share of values; Blend the one between its neighbours.
func Exact(l []uint64, q uint64) (v uint64, ok bool, e api.Errno) {
	keys := sorted(l)
	k, e := Place(q, uint64(len(keys)))
	if e != api.OK || k == 0 {
		return 0, false, e
	}
	return float.OfKey(keys[k-1]), true, api.OK
}
func Blend(l []uint64, q uint64) (v uint64, ok bool, e api.Errno) {
	if !isShare(q) {
		return 0, false, api.ErrHistRank
	}
	keys := sorted(l)
	if len(keys) == 0 {
		return 0, false, api.OK
	}
	i, part := portion(q, uint64(len(keys)-1))
	a := float.OfKey(keys[i])
	if part.isNone() {
		return a, true, api.OK
	}
	return between(a, float.OfKey(keys[i+1]), part), true, api.OK
}

// sorted tells the keys of all values that are no NaNs, rising.
func sorted(l []uint64) []uint64 {
	var keys []uint64
	for _, v := range l {
		if !isNaN(v) {
			keys = append(keys, float.Key(v))
		}
	}
	slices.Sort(keys)
	return keys
}

func isFinite(v uint64) bool { return v&^api.Neg64 < api.Inf64 }

// between tells the number that lies a part of the way from a to b.
func between(a, b uint64, part fraction) uint64 {
	switch {
	case a == b:
		return a
	case isFinite(a) && isFinite(b):
		return mixed(a, b, part)
	case isFinite(a):
		return b
	case isFinite(b):
		return a
	}
	return api.NaN64
}

// mixed tells between of finite numbers: a's share of what is missing, b's of the part.
func mixed(a, b uint64, part fraction) uint64 {
	negA, m, e, _ := float.Split(a)
	negB, n, g, _ := float.Split(b)
	low := min(e, g)
	p := times(left(limb.From(m), e-low), part.rest().over)
	q := times(left(limb.From(n), g-low), part.over)
	if negA == negB {
		return nearest(negA, plus(p, q), low-part.bits)
	}
	switch limb.Cmp(p, q) {
	case 1:
		return nearest(negA, less(p, q), low-part.bits)
	case -1:
		return nearest(negB, less(q, p), low-part.bits)
	}
	return 0
}

// nearest tells the binary64 nearest to size times 2^e.
func nearest(neg bool, size api.Nat, e int) uint64 {
	v, _ := exact.Ratio(neg, size, limb.From(1), e)
	return v
}

// What is reckoned here stays far below limb's bounds: so there are no errors to look at.

func plus(a, b api.Nat) api.Nat {
	c, _ := limb.Add(a, b)
	return c
}

// less tells a less b, which is not above it.
func less(a, b api.Nat) api.Nat {
	c, _ := limb.Sub(a, b)
	return c
}

func times(a, b api.Nat) api.Nat {
	c, _ := limb.Mul(a, b)
	return c
}

// left tells a times 2^n, n not below 0.
func left(a api.Nat, n int) api.Nat {
	c, _ := limb.Left(a, n)
	return c
}
