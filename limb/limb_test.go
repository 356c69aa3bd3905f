package limb_test

import (
	"math"
	"math/big"
	"testing"

	"fathom/api"
	"fathom/limb"
)

// P2.1: what is a number and what is none; what is too long goes ahead.
func TestCheck(t *testing.T) {
	for _, c := range noNumbers() {
		if e := limb.Check(c.a); e != c.e {
			t.Errorf("Check of %d limbs: %d, want %d", len(c.a), e, c.e)
		}
	}
	for _, a := range []api.Nat{nil, {}, {1}, {0, 1}, {0xffffffff, 0, 7}, natOf(most()), natOf(two(maxBits - 1))} {
		if e := limb.Check(a); e != api.OK {
			t.Errorf("Check of a number of %d limbs: %d", len(a), e)
		}
	}
}

// P2.1: Check's error of the arguments is told first, the first argument's ahead of the second's.
func TestArgumentsThatAreNoNumbers(t *testing.T) {
	for name, call := range ofTwo() {
		for _, c := range noNumbers() {
			for _, other := range []api.Nat{nil, {1}, {1, 2}} {
				told, e := call(c.a, other)
				fails(t, name+" of no number", told[0], e, c.e)
				told, e = call(other, c.a)
				fails(t, name+" with no number", told[0], e, c.e)
			}
			for _, d := range noNumbers() {
				told, e := call(c.a, d.a)
				fails(t, name+" of two that are none", told[0], e, c.e)
				if len(told) > 1 && len(told[1]) != 0 {
					t.Errorf("%s tells %d limbs beside an error", name, len(told[1]))
				}
			}
		}
	}
	for name, call := range ofOne() {
		for _, c := range noNumbers() {
			for _, n := range []int{0, 1, -1, math.MinInt, math.MaxInt} {
				b, said, e := call(c.a, n)
				fails(t, name+" of no number", b, e, c.e)
				if said {
					t.Errorf("%s says true beside an error", name)
				}
			}
		}
	}
}

// P2.1: calls without an error tell zero values of what is no number.
func TestZeroValuesOfNoNumbers(t *testing.T) {
	for _, c := range noNumbers() {
		if n, ok := limb.Small(c.a); n != 0 || ok {
			t.Errorf("Small: %d, %v", n, ok)
		}
		for _, b := range []api.Nat{nil, {1}, natOf(most()), c.a} {
			if limb.Cmp(c.a, b) != 0 || limb.Cmp(b, c.a) != 0 {
				t.Errorf("Cmp of no number is not 0")
			}
		}
		if limb.Len(c.a) != 0 || limb.Low(c.a) != 0 {
			t.Errorf("Len %d, Low %d", limb.Len(c.a), limb.Low(c.a))
		}
		for _, n := range []int{0, 32, maxBits} {
			if limb.Bit(c.a, n) {
				t.Errorf("Bit %d is 1", n)
			}
		}
		if len(limb.Bytes(c.a)) != 0 || limb.Text(c.a) != "" {
			t.Errorf("Bytes or Text tell something")
		}
	}
}

// P2.2: From and Small are each other's way back; Small refuses what is 2^64 or more.
func TestFromAndSmall(t *testing.T) {
	for _, n := range []uint64{0, 1, 5, 0xffffffff, 1 << 32, 1<<32 + 5, 1 << 63, 1<<64 - 1} {
		a := limb.From(n)
		is(t, "From", a, api.OK, new(big.Int).SetUint64(n))
		if m, ok := limb.Small(a); m != n || !ok {
			t.Errorf("Small of From(%d): %d, %v", n, m, ok)
		}
	}
	for _, x := range singles(6, 1000) {
		n, ok := limb.Small(natOf(x))
		if ok != x.IsUint64() || ok && n != x.Uint64() || !ok && n != 0 {
			t.Errorf("Small(%s): %d, %v", short(x), n, ok)
		}
	}
}

// P2.2: Cmp says what is below, equal, above.
func TestCmp(t *testing.T) {
	for _, p := range pairs(4, 5000) {
		x, y := p[0], p[1]
		if limb.Cmp(natOf(x), natOf(y)) != x.Cmp(y) || limb.Cmp(natOf(x), natOf(x)) != 0 {
			t.Errorf("Cmp(%s, %s): %d", short(x), short(y), limb.Cmp(natOf(x), natOf(y)))
		}
	}
	top := natOf(most())
	other := natOf(most())
	other[0]--
	if limb.Cmp(top, other) != 1 || limb.Cmp(other, top) != -1 {
		t.Error("the lowest limb of the longest numbers isn't seen")
	}
}

// The chapter's examples.
func TestExamples(t *testing.T) {
	is(t, "From(0)", limb.From(0), api.OK, num(0))
	a, e := limb.Mul(api.Nat{0xffffffff}, api.Nat{0xffffffff})
	is(t, "Mul", a, e, bigOf(api.Nat{1, 0xfffffffe}))
	a, e = limb.Sub(limb.From(1), limb.From(2))
	fails(t, "1 less 2", a, e, api.ErrLimbBelow)
	q, r, e := limb.DivMod(natOf(two(96)), limb.From(1<<64-1))
	is(t, "2^96 by 2^64 - 1", q, e, two(32))
	is(t, "what is left", r, e, two(32))
	a, e = limb.Left(limb.From(1), 262144)
	fails(t, "Left(1, 262144)", a, e, api.ErrLimbLong)
	a, e = limb.Power(10, 20)
	if e != api.OK || limb.Text(a) != "100000000000000000000" {
		t.Errorf("Power(10, 20): %s, %d", limb.Text(a), e)
	}
	if b := limb.Bytes(limb.From(256)); string(b) != "\x01\x00" {
		t.Errorf("Bytes(256): %x", b)
	}
	a, e = limb.OfText("18446744073709551616")
	is(t, "OfText", a, e, bigOf(api.Nat{0, 0, 1}))
}
