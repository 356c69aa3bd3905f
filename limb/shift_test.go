package limb_test

import (
	"math"
	"math/big"
	"testing"

	"fathom/api"
	"fathom/limb"
)

func shifts() []int {
	return []int{0, 1, 2, 31, 32, 33, 63, 64, 65, 95, 96, 100, 1000, 2047, 2048, 2049}
}

// P2.4, P2.9: a times 2^n, a divided by 2^n with what has gone, and back again.
func TestLeftAndRight(t *testing.T) {
	for _, x := range singles(8, 1000) {
		for _, n := range shifts() {
			a, e := limb.Left(natOf(x), n)
			is(t, "Left", a, e, new(big.Int).Lsh(x, uint(n)))
			back, gone, e := limb.Right(a, n)
			is(t, "Left then Right", back, e, x)
			if gone {
				t.Fatalf("Left(%s, %d) then Right: something has gone", short(x), n)
			}
			b, gone, e := limb.Right(natOf(x), n)
			low := new(big.Int).Rsh(x, uint(n))
			is(t, "Right", b, e, low)
			if gone != (low.Lsh(low, uint(n)).Cmp(x) != 0) {
				t.Fatalf("Right(%s, %d): gone is %v", short(x), n, gone)
			}
		}
	}
}

// P2.4, P2.5: shifts below 0, shifts as great as may be, and answers next to the longest number.
func TestShiftsAtTheirEdges(t *testing.T) {
	for _, n := range []int{-1, -32, math.MinInt} {
		for _, x := range []*big.Int{num(0), num(1), most()} {
			a, e := limb.Left(natOf(x), n)
			fails(t, "Left", a, e, api.ErrLimbShift)
			a, gone, e := limb.Right(natOf(x), n)
			fails(t, "Right", a, e, api.ErrLimbShift)
			if gone {
				t.Error("Right says true beside an error")
			}
		}
	}
	for _, n := range []int{maxBits, maxBits + 1, 1 << 62, math.MaxInt - 31, math.MaxInt} {
		a, e := limb.Left(nil, n)
		is(t, "Left of 0", a, e, num(0))
		for _, x := range []*big.Int{num(1), num(3), most()} {
			a, e = limb.Left(natOf(x), n)
			fails(t, "Left", a, e, api.ErrLimbLong)
			b, gone, e := limb.Right(natOf(x), n)
			is(t, "Right", b, e, num(0))
			if !gone {
				t.Errorf("Right(%s, %d): nothing has gone", short(x), n)
			}
		}
		b, gone, e := limb.Right(nil, n)
		is(t, "Right of 0", b, e, num(0))
		if gone {
			t.Error("of 0 nothing goes")
		}
	}
	for _, x := range edges()[1:] {
		for _, more := range []int{-33, -32, -31, -1, 0, 1, 31, 32, 33} {
			n := maxBits - x.BitLen() + more
			a, e := limb.Left(natOf(x), n)
			is(t, "Left", a, e, new(big.Int).Lsh(x, uint(n)))
		}
	}
	b, gone, e := limb.Right(natOf(most()), maxBits-1)
	is(t, "Right", b, e, num(1))
	if !gone {
		t.Error("Right of the longest: nothing has gone")
	}
	if b, gone, e = limb.Right(natOf(two(maxBits-1)), maxBits-1); gone {
		t.Error("Right of 2^262143: something has gone")
	}
	is(t, "Right", b, e, num(1))
}

// P2.6: Len, Low, and each bit.
func TestLenLowBit(t *testing.T) {
	for _, x := range append(singles(5, 500), most(), two(maxBits-1)) {
		a := natOf(x)
		if limb.Len(a) != x.BitLen() || limb.Low(a) != int(x.TrailingZeroBits()) {
			t.Fatalf("of %s: Len %d, Low %d", short(x), limb.Len(a), limb.Low(a))
		}
		for n := range x.BitLen() + 70 {
			if limb.Bit(a, n) != (x.Bit(n) == 1) {
				t.Fatalf("of %s: Bit %d is another one", short(x), n)
			}
		}
		for _, n := range []int{-1, -31, -32, -33, math.MinInt, math.MaxInt, math.MaxInt - 31, maxBits, 1 << 37} {
			if limb.Bit(a, n) {
				t.Fatalf("of %s: Bit %d is 1", short(x), n)
			}
		}
	}
}
