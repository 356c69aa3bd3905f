package exact_test

import (
	"math"
	"math/big"
	"math/rand"
	"slices"
	"testing"

	"fathom/api"
	"fathom/exact"
)

// checkRatio holds Ratio, Ratio32 and Root of p / q * 2^e against the model.
func checkRatio(t *testing.T, p, q *big.Int, e int) {
	t.Helper()
	x := ratio(p, q, e)
	minus := new(big.Rat).Neg(x)
	a, b := natOf(p), natOf(q)
	for _, neg := range []bool{false, true} {
		y, sign := x, uint64(0)
		if neg {
			y, sign = minus, api.Neg64
		}
		want, want32 := nearest(y), nearest32(y)
		if p.Sign() == 0 {
			want, want32 = sign, uint32(sign>>32)
		}
		if r, bad := exact.Ratio(neg, a, b, e); r != want || bad != api.OK {
			t.Fatalf("Ratio(%v, %x, %x, %d): %x, %d; want %x", neg, p, q, e, r, bad, want)
		}
		if r, bad := exact.Ratio32(neg, a, b, e); r != want32 || bad != api.OK {
			t.Fatalf("Ratio32(%v, %x, %x, %d): %x, %d; want %x", neg, p, q, e, r, bad, want32)
		}
	}
	if r, bad := exact.Root(a, b, e); !isRoot(r, x) || bad != api.OK {
		t.Fatalf("Root(%x, %x, %d): %x, %d", p, q, e, r, bad)
	}
}

// anyNat tells a number of some bits, by chance, or all ones, or a power of 2, or next to it; never 0.
func anyNat(r *rand.Rand, most int) *big.Int {
	n := r.Intn(most)
	x := two(n)
	switch r.Intn(4) {
	case 0:
		return add(x, new(big.Int).Rand(r, x))
	case 1:
		return sub(mul(x, num(2)), num(1))
	case 2:
		return add(x, num(1))
	}
	return x
}

// P4.1: any ratios, from where they are nought to where they are infinite.
func TestRatioOfAny(t *testing.T) {
	r := rand.New(rand.NewSource(41))
	for range 30000 {
		p, q := anyNat(r, 300), anyNat(r, 300)
		e := r.Intn(5000) - 2500
		if r.Intn(2) == 0 { // near 1, or near the ends of either width
			ends := []int{0, 128, -149, -126, 1024, -1074, -1022, 2048, -2148}
			e = q.BitLen() - p.BitLen() + ends[r.Intn(len(ends))] + r.Intn(5) - 2
		}
		checkRatio(t, p, q, e)
	}
	for e := -3000; e < 3000; e += 7 {
		checkRatio(t, num(0), num(3), e)
		checkRatio(t, num(1), num(3), e)
		checkRatio(t, num(1), num(1), e)
	}
}

// about holds x = p / q * 2^e, and what is but a hair below and above, against the model.
func about(t *testing.T, p, q *big.Int, e, hair int) {
	t.Helper()
	p, q = mul(p, two(hair)), mul(q, two(hair))
	for _, d := range []int64{-1, 0, 1} {
		checkRatio(t, add(p, num(d)), q, e)
	}
}

// P4.1: midway between two neighbours, and a hair off, however far the hair's bit lies.
func TestRatioMidway(t *testing.T) {
	r := rand.New(rand.NewSource(42))
	for i, v := range edges() {
		if v >= api.Inf64 {
			continue
		}
		up := units(v + 1)
		if v+1 == api.Inf64 {
			up = two(1024 + 1074)
		}
		mid := add(units(v), up)
		about(t, mid, anyOdd(r), -1075, 1+40*(i%8))
		about(t, mid, num(1), -1075, 1+40*(i%8))
		for n := 62; n < 66; n++ { // such that the hair is the last of so many bits
			about(t, mid, num(1), -1075, max(0, n-mid.BitLen()))
		}
	}
	for v := uint32(1); v < api.Inf32; v += 1<<23 + 7919 {
		x := math.Float32frombits(v)
		y := math.Nextafter32(x, 0)
		about(t, add(units(f(float64(x))), units(f(float64(y)))), num(1), -1075, 60)
	}
}

func anyOdd(r *rand.Rand) *big.Int { return num(r.Int63()/2*2 + 1) }

// P4.1: roots midway between two neighbours, and a hair off.
func TestRootMidway(t *testing.T) {
	r := rand.New(rand.NewSource(43))
	l := edges()
	for range 300 {
		l = append(l, r.Uint64())
	}
	for i, v := range l {
		if v >= api.Inf64-1 {
			continue
		}
		mid := add(units(v), units(v+1))
		q := anyOdd(r)
		about(t, mul(mid, mid), num(1), -2150, 1+33*(i%9))
		about(t, mul(mid, mid, q, two(i%3)), q, -2150-i%3, 1+33*(i%9))
	}
	mid := sub(two(54), num(1)) // half a step beyond the greatest
	about(t, mul(mid, mid), num(1), 2*970, 1)
	about(t, mul(mid, mid), num(1), 2*970, 500)
	about(t, mul(mid, mid), num(1), 2*970, 5000)
}

// P4.1: numbers as long as may be, which have no room to be shifted.
func TestRatioLong(t *testing.T) {
	r := rand.New(rand.NewSource(44))
	most := sub(two(maxBits), num(1))
	lens := []int{1, 53, 64, 4000, maxBits - 200, maxBits - 129, maxBits - 128, maxBits - 127, maxBits - 126, maxBits - 64, maxBits - 63, maxBits - 62, maxBits - 1}
	long := []*big.Int{most, two(maxBits - 1), add(two(maxBits-1), num(1))}
	for _, n := range lens {
		long = append(long, add(two(n), new(big.Int).Rand(r, two(n))))
	}
	for i, p := range long {
		for j, q := range long {
			if (i+2*j)%7 == 0 {
				checkRatio(t, p, q, q.BitLen()-p.BitLen()+r.Intn(3))
			}
		}
	}
	for _, bits := range []int{24, 53, 54} { // ties, to below and to above, and a hair off, of long ones
		for _, odd := range []*big.Int{add(two(bits), num(1)), add(two(bits), num(3))} {
			part := add(two(maxBits-1-bits), new(big.Int).Rand(r, two(maxBits-2-bits)))
			p, q := mul(part, odd), mul(part, two(bits))
			for _, d := range []int64{-1, 0, 1} {
				checkRatio(t, add(p, num(d)), q, 0)
				checkRatio(t, p, add(q, num(d)), -1022+53-bits)
			}
		}
	}
	q := sub(two(maxBits-1), num(1))
	checkRatio(t, q, q, 0)
	checkRatio(t, add(q, two(maxBits-1-53)), q, 0) // above a tie, by less than any other one
}

// P4.1: e is any int.
func TestRatioOfAnyPower(t *testing.T) {
	one, most := api.Nat{1}, natOf(sub(two(maxBits), num(1)))
	for _, e := range []int{math.MinInt, math.MinInt + 1, -1 << 62, -1 << 32, -1 << 21, -1 << 20, 1 << 20, 1 << 21, 1 << 32, 1 << 62, math.MaxInt - 1, math.MaxInt} {
		want := uint64(0)
		if e > 0 {
			want = api.Inf64
		}
		for _, x := range [][2]api.Nat{{one, one}, {most, one}, {one, most}, {{7}, {5}}} {
			if r, bad := exact.Ratio(true, x[0], x[1], e); r != want|api.Neg64 || bad != api.OK {
				t.Errorf("Ratio at %d: %x", e, r)
			}
			if r, bad := exact.Ratio32(false, x[0], x[1], e); uint64(r) != want/api.Inf64*api.Inf32 || bad != api.OK {
				t.Errorf("Ratio32 at %d: %x", e, r)
			}
			if r, bad := exact.Root(x[0], x[1], e); r != want || bad != api.OK {
				t.Errorf("Root at %d: %x", e, r)
			}
		}
		if r, bad := exact.Ratio(true, nil, one, e); r != api.Neg64 || bad != api.OK {
			t.Errorf("of 0 at %d: %x", e, r)
		}
		if r, bad := exact.Root(nil, one, e); r != 0 || bad != api.OK {
			t.Errorf("the root of 0 at %d: %x", e, r)
		}
	}
	for _, e := range []int{-maxBits + 1, -maxBits - 10, -maxBits - 1074, maxBits} { // powers that a long number makes good
		checkRatio(t, two(maxBits-1), num(1), e)
		checkRatio(t, num(1), two(maxBits-1), -e)
	}
}

// P4.1: what is no number goes ahead of a division by nought; beside an error stands 0.
func TestRatioErrors(t *testing.T) {
	one, bad, long := api.Nat{1}, api.Nat{1, 0}, make(api.Nat, api.MaxLimbs+1)
	long[api.MaxLimbs] = 1
	for i, c := range []struct {
		p, q api.Nat
		e    api.Errno
	}{
		{one, nil, api.ErrExactZero}, {nil, nil, api.ErrExactZero}, {one, api.Nat{}, api.ErrExactZero},
		{bad, one, api.ErrExactForm}, {one, bad, api.ErrExactForm}, {bad, nil, api.ErrExactForm}, {long, one, api.ErrExactForm}, {one, long, api.ErrExactForm}, {long, nil, api.ErrExactForm}, {nil, api.Nat{0}, api.ErrExactForm},
	} {
		for _, power := range []int{0, math.MinInt, math.MaxInt} {
			if r, e := exact.Ratio(true, c.p, c.q, power); r != 0 || e != c.e {
				t.Errorf("line %d: Ratio: %x, %d", i, r, e)
			}
			if r, e := exact.Ratio32(true, c.p, c.q, power); r != 0 || e != c.e {
				t.Errorf("line %d: Ratio32: %x, %d", i, r, e)
			}
			if r, e := exact.Root(c.p, c.q, power); r != 0 || e != c.e {
				t.Errorf("line %d: Root: %x, %d", i, r, e)
			}
		}
	}
}

// P4.1: the chapter's examples, and some of binary32.
func TestRatioExamples(t *testing.T) {
	for i, c := range []struct {
		neg  bool
		p, q api.Nat
		e    int
		want uint64
	}{
		{false, api.Nat{1}, api.Nat{3}, 0, 0x3fd5555555555555}, {true, nil, api.Nat{1}, 0, api.Neg64}, {false, api.Nat{1}, api.Nat{1}, 1024, api.Inf64}, {false, api.Nat{1}, api.Nat{1}, -1075, 0}, {true, api.Nat{1}, api.Nat{1}, -1075, api.Neg64}, {false, api.Nat{3}, api.Nat{1}, -1076, 1},
	} {
		if r, e := exact.Ratio(c.neg, c.p, c.q, c.e); r != c.want || e != api.OK {
			t.Errorf("line %d: %x, %d; want %x", i, r, e, c.want)
		}
	}
	if r, _ := exact.Root(api.Nat{2}, api.Nat{1}, 0); r != 0x3ff6a09e667f3bcd {
		t.Errorf("Root(2): %x", r)
	}
	// By way of a binary64 this one would become a tie.
	p := natOf(add(add(two(60), two(36)), num(1)))
	if r, _ := exact.Ratio32(false, p, api.Nat{1}, -60); r != 0x3f800001 {
		t.Errorf("Ratio32 rounds twice: %x", r)
	}
	if r, _ := exact.Ratio32(true, nil, api.Nat{1}, 5); r != api.Neg32 {
		t.Errorf("Ratio32(-0): %x", r)
	}
}

// P4.13 (R2): numbers that are handed in stay as they are, and what lies behind them is not looked at.
func TestRatioMemory(t *testing.T) {
	p, q := api.Nat{5, 6, 7, 9, 9}, api.Nat{3, 1, 8, 8, 8}
	for _, neg := range []bool{false, true} {
		want, _ := exact.Ratio(neg, api.Nat{5, 6, 7}, api.Nat{3, 1}, -3)
		got, _ := exact.Ratio(neg, p[:3], q[:2], -3)
		same(t, "Ratio", got, want)
	}
	exact.Ratio32(true, p[:3], q[:2], 9)
	exact.Root(p[:3], q[:2], 9)
	if !slices.Equal(p, api.Nat{5, 6, 7, 9, 9}) || !slices.Equal(q, api.Nat{3, 1, 8, 8, 8}) {
		t.Error("a number has changed")
	}
}
