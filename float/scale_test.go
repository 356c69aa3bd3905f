package float_test

import (
	"math"
	"math/big"
	"math/rand"
	"testing"

	"fathom/api"
	"fathom/float"
)

// P3.8: sign, odd whole number and power of 2; of what is not finite nothing.
func TestSplit(t *testing.T) {
	for _, b := range patterns[uint64](20000) {
		neg, m, e, ok := float.Split(b)
		switch {
		case wide.isNaN(b) || wide.isInf(b):
			if neg || m != 0 || e != 0 || ok {
				t.Fatalf("Split(%x): %v, %d, %d, %v", b, neg, m, e, ok)
			}
		case wide.isNought(b):
			if neg != wide.neg(b) || m != 0 || e != 0 || !ok {
				t.Fatalf("Split(%x): %v, %d, %d, %v", b, neg, m, e, ok)
			}
		default:
			x := wide.number(b)
			same := plus(exact{m: x.m.Abs(x.m), e: x.e}, exact{m: new(big.Int).Neg(new(big.Int).SetUint64(m)), e: e})
			if neg != wide.neg(b) || m%2 != 1 || same.m.Sign() != 0 || !ok {
				t.Fatalf("Split(%x): %v, %d, %d, %v", b, neg, m, e, ok)
			}
		}
	}
	for _, x := range []struct {
		b   uint64
		neg bool
		m   uint64
		e   int
	}{
		{f(3), false, 3, 0}, {f(8), false, 1, 3}, {1, false, 1, -1074}, {0x8000000000000001, true, 1, -1074}, {f(-0.75), true, 3, -2}, {0x7fefffffffffffff, false, 1<<53 - 1, 971}, {0x000fffffffffffff, false, 1<<52 - 1, -1074}, {api.Neg64, true, 0, 0},
	} {
		if neg, m, e, ok := float.Split(x.b); neg != x.neg || m != x.m || e != x.e || !ok {
			t.Errorf("Split(%x): %v, %d, %d, %v", x.b, neg, m, e, ok)
		}
	}
}

// scaleOf is P3.8's Scale; what is beyond 5000 steps is beyond all floats.
func scaleOf(b uint64, n int) uint64 {
	switch {
	case wide.isNaN(b):
		return wide.nan()
	case wide.isInf(b) || wide.isNought(b):
		return b
	}
	x := wide.number(b &^ api.Neg64)
	x.e += min(max(n, -5000), 5000)
	return wide.signed(wide.neg(b), wide.nearest(x))
}

// P3.8: times powers of 2, rounded once, whatever the power.
func TestScale(t *testing.T) {
	r := rand.New(rand.NewSource(5))
	powers := []int{0, 1, -1, 52, 53, -52, -53, 1022, 1023, 1024, -1021, -1022, -1023, -1074, -1075, -1076, 2045, 2046, 2097, 2098, 2099, -2097, -2098, -2099, -2100, -2101, 1 << 20, -1 << 20, 1 << 31, -1 << 31, 1 << 32, -1 << 32, math.MaxInt - 1, math.MaxInt, math.MinInt, math.MinInt + 1, math.MinInt + 1074, math.MaxInt - 1074}
	for _, b := range patterns[uint64](5000) {
		near := -1074 - int(b&wide.inf()>>52) + 1023 // the power that makes it about the least number
		for _, n := range append(powers, r.Intn(4400)-2200, near, near-1, near+1, near+r.Intn(60)) {
			if s, want := float.Scale(b, n), scaleOf(b, n); s != want {
				t.Fatalf("Scale(%x, %d): %x; want %x", b, n, s, want)
			}
		}
	}
	for _, x := range []struct {
		x    float64
		n    int
		want uint64
	}{{1, -1075, 0}, {1.5, -1074, 2}, {1, 1024, api.Inf64}, {-1, -1075, api.Neg64}, {0x1.0000000000001p0, -1075, 1}, {-1, 1024, api.Inf64 | api.Neg64}} {
		if s := float.Scale(f(x.x), x.n); s != x.want {
			t.Errorf("Scale(%v, %d): %x; want %x", x.x, x.n, s, x.want)
		}
	}
}
