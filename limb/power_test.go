package limb_test

import (
	"math"
	"math/big"
	"testing"

	"fathom/api"
	"fathom/limb"
)

// P2.3: powers, of 0 and 1 too.
func TestPower(t *testing.T) {
	for _, base := range []uint32{0, 1, 2, 3, 7, 10, 1 << 16, 1 << 31, 0xfffffffe, 0xffffffff} {
		for n := range 70 {
			a, e := limb.Power(base, n)
			is(t, "Power", a, e, new(big.Int).Exp(num(int64(base)), num(int64(n)), nil))
		}
		for _, n := range []int{-1, -2, math.MinInt} {
			a, e := limb.Power(base, n)
			fails(t, "Power below 0", a, e, api.ErrLimbShift)
		}
	}
}

// P2.5: powers next to the longest number, and exponents as great as may be.
func TestPowerAtTheLongest(t *testing.T) {
	for _, c := range []struct {
		base uint32
		last int // the last exponent whose power is not too long
	}{
		{2, maxBits - 1}, {3, 165394}, {4, maxBits/2 - 1}, {10, 78913}, {1 << 16, maxBits/16 - 1}, {1 << 31, 8456}, {0xffffffff, api.MaxLimbs},
	} {
		want := new(big.Int).Exp(num(int64(c.base)), num(int64(c.last)), nil)
		if want.BitLen() > maxBits || new(big.Int).Mul(want, num(int64(c.base))).BitLen() <= maxBits {
			t.Fatalf("%d to the %d-th is not the last one", c.base, c.last)
		}
		a, e := limb.Power(c.base, c.last)
		is(t, "Power", a, e, want)
		for _, n := range []int{c.last + 1, c.last + 2, 2 * c.last, maxBits, maxBits + 1, math.MaxInt - 1, math.MaxInt} {
			a, e := limb.Power(c.base, n)
			fails(t, "Power", a, e, api.ErrLimbLong)
		}
	}
	for _, n := range []int{maxBits, math.MaxInt - 1, math.MaxInt} {
		a, e := limb.Power(0, n)
		is(t, "Power of 0", a, e, num(0))
		a, e = limb.Power(1, n)
		is(t, "Power of 1", a, e, num(1))
	}
}

// roots fails unless Root tells the root, and whether it is exact.
func roots(t *testing.T, x *big.Int) {
	t.Helper()
	want := new(big.Int).Sqrt(x)
	r, exact, e := limb.Root(natOf(x))
	is(t, "Root of "+short(x), r, e, want)
	if exact != (want.Mul(want, want).Cmp(x) == 0) {
		t.Fatalf("Root of %s: exact is %v", short(x), exact)
	}
}

// P2.7: roots of squares and of their neighbours, of all small numbers, of the longest ones.
func TestRoot(t *testing.T) {
	for x := range int64(3000) {
		roots(t, num(x))
	}
	for _, x := range singles(9, 3000) {
		roots(t, x)
		square := new(big.Int).Mul(x, x)
		roots(t, square)
		roots(t, plus(square, 1))
		if square.Sign() > 0 {
			roots(t, plus(square, -1))
		}
	}
	top := plus(two(maxBits/2), -1)
	square := new(big.Int).Mul(top, top)
	for _, x := range []*big.Int{most(), plus(most(), -1), two(maxBits - 1), two(maxBits - 2), plus(two(maxBits-2), -1), square, plus(square, -1), plus(square, 1)} {
		roots(t, x)
	}
}
