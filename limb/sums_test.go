package limb_test

import (
	"math/big"
	"math/rand"
	"testing"

	"fathom/api"
	"fathom/limb"
)

// P2.3: sums, differences and products.
func TestAddSubMul(t *testing.T) {
	for _, p := range pairs(12, 5000) {
		x, y := p[0], p[1]
		a, b := natOf(x), natOf(y)
		c, e := limb.Add(a, b)
		is(t, "Add", c, e, new(big.Int).Add(x, y))
		c, e = limb.Mul(a, b)
		is(t, "Mul", c, e, new(big.Int).Mul(x, y))
		c, e = limb.Sub(a, b)
		if x.Cmp(y) < 0 {
			fails(t, "Sub", c, e, api.ErrLimbBelow)
		} else {
			is(t, "Sub", c, e, new(big.Int).Sub(x, y))
		}
	}
}

// P2.5: sums and products next to the longest number.
func TestAddAndMulAtTheLongest(t *testing.T) {
	top := most()
	for _, p := range [][2]*big.Int{
		{top, num(0)}, {plus(top, -1), num(1)}, {top, num(1)}, {two(maxBits - 1), two(maxBits - 1)}, {two(maxBits - 1), plus(two(maxBits-1), -1)}, {top, top},
	} {
		a, e := limb.Add(natOf(p[0]), natOf(p[1]))
		is(t, "Add", a, e, new(big.Int).Add(p[0], p[1]))
		a, e = limb.Add(natOf(p[1]), natOf(p[0]))
		is(t, "Add", a, e, new(big.Int).Add(p[0], p[1]))
	}
	third := new(big.Int).Div(top, num(3))
	for _, p := range [][2]*big.Int{
		{top, num(0)}, {num(0), top}, {top, num(1)}, {top, num(2)}, {top, top}, {third, num(3)}, {plus(third, 1), num(3)},
		{two(maxBits / 2), two(maxBits / 2)}, {two(maxBits / 2), two(maxBits/2 - 1)}, {plus(two(maxBits/2), -1), plus(two(maxBits/2), -1)},
		{two(maxBits - 32), num(1<<32 - 1)}, {two(maxBits - 32), num(1 << 32)}, {two(maxBits - 33), num(1 << 32)}, {num(1 << 32), two(maxBits - 33)},
		{plus(two(maxBits/2), 1), plus(two(maxBits/2), -1)},
	} {
		a, e := limb.Mul(natOf(p[0]), natOf(p[1]))
		is(t, "Mul", a, e, new(big.Int).Mul(p[0], p[1]))
	}
	a, e := limb.Sub(natOf(top), natOf(top))
	is(t, "Sub", a, e, num(0))
	a, e = limb.Sub(natOf(two(maxBits-1)), limb.From(1))
	is(t, "Sub", a, e, plus(two(maxBits-1), -1))
}

// divides fails unless DivMod tells quotient and rest.
func divides(t *testing.T, x, y *big.Int) {
	t.Helper()
	q, r, e := limb.DivMod(natOf(x), natOf(y))
	if y.Sign() == 0 {
		fails(t, "DivMod by 0", q, e, api.ErrLimbZero)
		fails(t, "DivMod by 0", r, e, api.ErrLimbZero)
		return
	}
	wantQ, wantR := new(big.Int).DivMod(x, y, new(big.Int))
	is(t, "DivMod's quotient of "+short(x)+" by "+short(y), q, e, wantQ)
	is(t, "DivMod's rest of "+short(x)+" by "+short(y), r, e, wantR)
}

// P2.3: quotients and what is left, and a division by 0.
func TestDivMod(t *testing.T) {
	for _, p := range pairs(12, 20000) {
		divides(t, p[0], p[1])
		divides(t, new(big.Int).Mul(p[0], p[1]), p[1])
	}
	for _, y := range []*big.Int{num(0), num(1), num(3), two(31), two(64), plus(two(maxBits/2), -1), plus(two(maxBits/2), 1), plus(most(), -1), most()} {
		divides(t, most(), y)
		divides(t, two(maxBits-1), y)
		divides(t, plus(two(maxBits/2), 1), y)
		divides(t, num(0), y)
	}
}

// P2.3: all short numbers whose limbs are at their edges, where a digit that is guessed is one too great.
func TestDivModByEdgesOfLimbs(t *testing.T) {
	lists := func(n int) []api.Nat {
		l := []api.Nat{{}}
		for range n {
			longer := []api.Nat{}
			for _, a := range l {
				for _, x := range edgeLimbs() {
					longer = append(longer, append(append(api.Nat{}, a...), x))
				}
			}
			l = longer
		}
		return l
	}
	divisors := append(lists(2), lists(3)...)
	for _, a := range lists(4) {
		if a[3] == 0 {
			continue
		}
		for _, b := range divisors {
			if b[len(b)-1] != 0 {
				holdsTogether(t, a, b)
			}
		}
	}
	divides(t, bigOf(api.Nat{0, 0, 0x80000000, 0x7fffffff}), bigOf(api.Nat{1, 0, 0x80000000}))
	divides(t, bigOf(api.Nat{0, 0xfffffffe, 0x80000000}), bigOf(api.Nat{0xffffffff, 0x80000000}))
}

// holdsTogether fails unless a is q b + r, and r below b.
func holdsTogether(t *testing.T, a, b api.Nat) {
	t.Helper()
	q, r, e := limb.DivMod(a, b)
	if e != api.OK || limb.Check(q) != api.OK || limb.Check(r) != api.OK {
		t.Fatalf("DivMod(%x, %x): error %d", a, b, e)
	}
	back := new(big.Int).Mul(bigOf(q), bigOf(b))
	back.Add(back, bigOf(r))
	if back.Cmp(bigOf(a)) != 0 || bigOf(r).Cmp(bigOf(b)) >= 0 {
		t.Fatalf("DivMod(%x, %x): %x, %x", a, b, q, r)
	}
}

// gcds fails unless Gcd tells the greatest divisor, in both orders.
func gcds(t *testing.T, x, y *big.Int) {
	t.Helper()
	want := new(big.Int).GCD(nil, nil, x, y)
	a, e := limb.Gcd(natOf(x), natOf(y))
	is(t, "Gcd of "+short(x)+" and "+short(y), a, e, want)
	a, e = limb.Gcd(natOf(y), natOf(x))
	is(t, "Gcd of "+short(y)+" and "+short(x), a, e, want)
}

// P2.3: Gcd of any numbers, of some with much in common, of 0.
func TestGcd(t *testing.T) {
	rnd := rand.New(rand.NewSource(5))
	for _, p := range pairs(12, 4000) {
		gcds(t, p[0], p[1])
		gcds(t, p[0], p[0])
		z := anyNumber(rnd, 6)
		gcds(t, new(big.Int).Mul(p[0], z), new(big.Int).Mul(p[1], z))
	}
	for _, x := range append(edges(), most(), two(maxBits-1)) {
		gcds(t, x, num(0))
		gcds(t, x, num(1))
	}
	for x := range int64(60) {
		for y := range int64(60) {
			gcds(t, num(x), num(y))
		}
	}
}

// P2.3: Gcd of neighbours that go down as slowly as may be, of quotients that are great, and of the longest numbers.
func TestGcdGoesDown(t *testing.T) {
	x, y := num(1), num(0)
	for i := range 4000 {
		x, y = new(big.Int).Add(x, y), x
		if i%37 == 0 {
			gcds(t, x, y)
			gcds(t, new(big.Int).Mul(x, num(6)), new(big.Int).Mul(y, num(15)))
		}
	}
	for _, q := range []int64{1, 2, 1<<16 + 1, 1<<31 - 1, 1 << 31, 1<<32 - 1, 1 << 40, 1<<62 - 1} {
		x, y := num(1), num(0)
		for range 60 {
			x, y = new(big.Int).Add(new(big.Int).Mul(x, num(q)), y), x
			gcds(t, x, y)
			gcds(t, plus(x, 1), y)
		}
	}
	gcds(t, most(), plus(most(), -1))
	gcds(t, most(), plus(two(maxBits/3*2), -1))
	gcds(t, new(big.Int).Exp(num(3), num(165000), nil), new(big.Int).Exp(num(6), num(100000), nil))
}

// P2.9: what follows of sums, products, quotients and divisors.
func TestWhatFollowsOfSums(t *testing.T) {
	rnd := rand.New(rand.NewSource(7))
	got := func(a api.Nat, e api.Errno) api.Nat {
		t.Helper()
		if e != api.OK {
			t.Fatalf("error %d", e)
		}
		return a
	}
	same := func(what string, a, b api.Nat) {
		t.Helper()
		if limb.Cmp(a, b) != 0 {
			t.Fatalf("%s: %x is not %x", what, a, b)
		}
	}
	for range 1000 {
		a, b, c := natOf(anyNumber(rnd, 9)), natOf(anyNumber(rnd, 9)), natOf(anyNumber(rnd, 9))
		ab, bc := got(limb.Add(a, b)), got(limb.Add(b, c))
		same("order", ab, got(limb.Add(b, a)))
		same("grouping", got(limb.Add(ab, c)), got(limb.Add(a, bc)))
		same("taken back", got(limb.Sub(ab, b)), a)
		same("order", got(limb.Mul(a, b)), got(limb.Mul(b, a)))
		same("grouping", got(limb.Mul(got(limb.Mul(a, b)), c)), got(limb.Mul(a, got(limb.Mul(b, c)))))
		same("spread", got(limb.Mul(a, bc)), got(limb.Add(got(limb.Mul(a, b)), got(limb.Mul(a, c)))))
		if limb.Cmp(c, b) < 0 {
			q, r, e := limb.DivMod(got(limb.Add(got(limb.Mul(a, b)), c)), b)
			same("quotient", got(q, e), a)
			same("rest", r, c)
		}
		if g := got(limb.Gcd(a, b)); len(g) > 0 {
			x, r, _ := limb.DivMod(a, g)
			y, s, _ := limb.DivMod(b, g)
			same("Gcd divides", r, nil)
			same("Gcd divides", s, nil)
			same("what is left has Gcd 1", got(limb.Gcd(x, y)), limb.From(1))
		}
	}
}
