package hist

import (
	"cmp"

	"fathom/api"
	"fathom/float"
	"fathom/limb"
)

const one = 0x3ff0000000000000 // the greatest share

// isShare tells whether a number is one from 0 to 1: their patterns rise as they do.
func isShare(q uint64) bool { return q <= one || q == api.Neg64 }

func isNaN(v uint64) bool { return v&^api.Neg64 > api.Inf64 }

// Place tells the place of a share among n: the least whole number that is not below it, 1 at least.
func Place(q uint64, n uint64) (uint64, api.Errno) {
	switch {
	case !isShare(q):
		return 0, api.ErrHistRank
	case n == 0:
		return 0, api.OK
	}
	k, part := portion(q, n)
	if !part.isNone() || k == 0 {
		k++
	}
	return k, api.OK
}

// fraction is a number below 1: over 2^bits.
type fraction struct {
	over api.Nat
	bits int
}

func (f fraction) isNone() bool { return len(f.over) == 0 }

// rest tells how much is missing to 1.
func (f fraction) rest() fraction {
	return fraction{less(left(limb.From(1), f.bits), f.over), f.bits}
}

// portion tells a share of n exactly: its whole part, and what is left.
func portion(q uint64, n uint64) (uint64, fraction) {
	_, m, e, _ := float.Split(q) // e is not above 0: m is odd, and q not above 1
	all := times(limb.From(m), limb.From(n))
	whole, _, _ := limb.Right(all, -e)
	k, _ := limb.Small(whole) // it is not above n
	return k, fraction{less(all, left(whole, -e)), -e}
}

// seek tells the place of the first item that is not below x in a list that rises; its length, if there is none.
func seek[T cmp.Ordered](l []T, x T) int {
	low, high := 0, len(l)
	for low < high {
		mid := low + (high-low)/2
		if l[mid] < x {
			low = mid + 1
		} else {
			high = mid
		}
	}
	return low
}
