package float_test

import (
	"math"
	"math/big"
	"math/rand"
	"testing"

	"fathom/api"
	"fathom/float"
)

func reckons[T float.Word](t *testing.T, a, b T) {
	t.Helper()
	s, x, y := shapeOf[T](), uint64(a), uint64(b)
	for _, c := range []struct {
		what       string
		told, want uint64
	}{
		{"Add", uint64(float.Add(a, b)), s.add(x, y)},
		{"Sub", uint64(float.Sub(a, b)), s.sub(x, y)},
		{"Mul", uint64(float.Mul(a, b)), s.mul(x, y)},
		{"Div", uint64(float.Div(a, b)), s.div(x, y)},
	} {
		if c.told != c.want {
			t.Fatalf("%s(%x, %x): %x; want %x", c.what, a, b, c.told, c.want)
		}
	}
	follows(t, a, b)
}

// follows fails unless what P3.11 says of operations holds.
func follows[T float.Word](t *testing.T, a, b T) {
	t.Helper()
	s := shapeOf[T]()
	if float.Add(a, b) != float.Add(b, a) || float.Mul(a, b) != float.Mul(b, a) {
		t.Fatalf("Add or Mul of %x and %x hangs on their order", a, b)
	}
	if float.Sub(a, b) != float.Add(a, b^T(s.sign())) {
		t.Fatalf("Sub(%x, %x) is no Add", a, b)
	}
	if !s.isNaN(uint64(a)) && !s.isInf(uint64(a)) && float.Sub(a, a) != 0 {
		t.Fatalf("%x less itself is not +0", a)
	}
}

func reckonsAll[T float.Word](t *testing.T) {
	s := shapeOf[T]()
	l := s.edges()
	for _, a := range l {
		for _, b := range l {
			reckons(t, T(a), T(b))
		}
	}
	r := rand.New(rand.NewSource(6))
	for range 60000 {
		a := s.some(r, l[r.Intn(len(l))])
		reckons(t, T(a), T(s.some(r, a)))
	}
}

// P3.9, P3.11: sums, differences, products and quotients, of both widths.
func TestAddSubMulDiv(t *testing.T) {
	reckonsAll[uint64](t)
	reckonsAll[uint32](t)
}

// aimed tells operands whose quotient, or product, lies next to where the rounding of a narrow one turns.
func aimed(r *rand.Rand) (a, b uint32) {
	b = uint32(narrow.some(r, 0x3f800000)) & 0x7fffffff
	mid := narrow.number(uint64(uint32(narrow.some(r, 0x3f800000)) & 0x7fffffff))
	mid = plus(mid, exact{m: big.NewInt(1), e: mid.e - 1})
	if b >= api.Inf32 {
		return b, b
	}
	return uint32(narrow.nearest(times(mid, narrow.number(uint64(b))))), b
}

// P3.9: binary32s are rounded once, where a binary64 is but a hair off a midway.
func TestNarrowOnce(t *testing.T) {
	r := rand.New(rand.NewSource(7))
	for range 60000 {
		a, b := aimed(r)
		for _, d := range []uint32{0, 1, ^uint32(0)} {
			reckons(t, a+d, b)
		}
	}
	if float.Mul(uint32(0x7f7fffff), 0x3f800001) != api.Inf32 {
		t.Error("beyond the greatest binary32")
	}
	if float.Add(uint32(0x7f7fffff), 0x73000000) != api.Inf32 || float.Add(uint32(0x7f7fffff), 0x72ffffff) != 0x7f7fffff {
		t.Error("half a step from the greatest binary32")
	}
}

func roots[T float.Word](t *testing.T) {
	s := shapeOf[T]()
	for _, a := range patterns[T](30000) {
		for _, b := range []T{a, a &^ T(s.sign()), float.Mul(a, a), float.Up(float.Mul(a, a)), float.Down(float.Mul(a, a))} {
			if r, want := float.Root(b), T(s.root(uint64(b))); r != want {
				t.Fatalf("Root(%x): %x; want %x", b, r, want)
			}
		}
	}
}

// P3.9: roots, of squares and of what is next to them; of -0 it, of what is below nought the one NaN.
func TestRoot(t *testing.T) {
	roots[uint64](t)
	roots[uint32](t)
	if float.Root(uint64(api.Neg64)) != api.Neg64 || float.Root(uint32(api.Neg32)) != api.Neg32 || float.Root(f(-1)) != api.NaN64 || float.Root(f(math.Inf(-1))) != api.NaN64 || float.Root(f(math.Inf(1))) != api.Inf64 || float.Root(f(4)) != f(2) {
		t.Error("Root")
	}
}

func fuses(t *testing.T, a, b, c uint64) {
	t.Helper()
	if r, want := float.Fma(a, b, c), wide.fma(a, b, c); r != want {
		t.Fatalf("Fma(%x, %x, %x): %x; want %x", a, b, c, r, want)
	}
}

// P3.9: products and sums, rounded once.
func TestFma(t *testing.T) {
	l := wide.edges()
	for _, a := range l {
		for _, b := range l[:len(l)/2] {
			for _, c := range l {
				fuses(t, a, b, c)
			}
		}
	}
	r := rand.New(rand.NewSource(8))
	for range 100000 {
		a := wide.some(r, f(1))
		b := wide.some(r, a)
		p := float.Mul(a, b)
		fuses(t, a, b, wide.some(r, p))
		fuses(t, a, b, p^api.Neg64) // what is left is what the product lost
		fuses(t, a, b, wide.some(r, p)&wide.inf()|p&api.Neg64^api.Neg64)
	}
	if float.Fma(f(1+0x1p-52), f(1+0x1p-52), f(-(1+0x1p-51))) != f(0x1p-104) {
		t.Error("the chapter's product and sum")
	}
	fuses(t, 1, 0x8000000000000001, 0) // less than nought: -0, whatever nought is added
	fuses(t, 1, 1, api.Neg64)
	fuses(t, f(math.MaxFloat64), f(2), f(-math.MaxFloat64))
	fuses(t, f(math.MaxFloat64), f(math.MaxFloat64), f(math.Inf(-1)))
}

// P3.9: each operation by itself: what is multiplied and then added is rounded twice.
func TestNothingIsFused(t *testing.T) {
	a, c := f(1+0x1p-52), f(-(1 + 0x1p-51))
	if r := float.Add(float.Mul(a, a), c); r != 0 {
		t.Errorf("a product and a sum are fused: %x", r)
	}
	if r := float.Sub(float.Mul(a, a), c^api.Neg64); r != 0 {
		t.Errorf("a product and a difference are fused: %x", r)
	}
}

// P3.9: the chapter's noughts, infinities and NaNs.
func TestReckonSpecial(t *testing.T) {
	inf, neg0, one := f(math.Inf(1)), uint64(api.Neg64), f(1)
	for i, x := range [][2]uint64{
		{float.Add(one, f(0x1p-53)), one},
		{float.Add(neg0, neg0), neg0}, {float.Add(neg0, 0), 0}, {float.Sub(neg0, neg0), 0}, {float.Sub(neg0, 0), neg0}, {float.Sub(one, one), 0}, {float.Sub(f(-1), f(-1)), 0},
		{float.Add(inf, inf), inf}, {float.Add(inf, inf|neg0), api.NaN64}, {float.Sub(inf, inf), api.NaN64}, {float.Sub(inf, inf|neg0), inf},
		{float.Mul(inf, 0), api.NaN64}, {float.Mul(neg0, inf), api.NaN64}, {float.Mul(neg0, one), neg0}, {float.Mul(neg0, neg0), 0}, {float.Mul(inf, f(-2)), inf | neg0},
		{float.Div(one, neg0), inf | neg0}, {float.Div(f(-1), neg0), inf}, {float.Div(0, neg0), api.NaN64}, {float.Div(inf, inf), api.NaN64}, {float.Div(inf, 0), inf}, {float.Div(one, inf|neg0), neg0}, {float.Div(neg0, f(3)), neg0},
		{float.Mul(1, f(0.5)), 0}, {float.Mul(1, f(-0.5)), neg0}, {float.Div(1, f(-2)), neg0}, {float.Mul(3, f(0.5)), 2},
		{float.Add(0xfff0000000000001, one), api.NaN64}, {float.Sub(one, 0xffffffffffffffff), api.NaN64}, {float.Mul(uint64(0x7ff8000000000001), 0), api.NaN64}, {float.Div(0xfff8000000000000, one), api.NaN64}, {float.Root(uint64(0xfff0000000000001)), api.NaN64},
		{float.Fma(0xfff8000000000000, one, one), api.NaN64}, {float.Fma(one, one, 0x7ff0000000000001), api.NaN64}, {float.Fma(inf, one, inf|neg0), api.NaN64}, {float.Fma(inf, 0, one), api.NaN64}, {float.Fma(one, one, f(-1)), 0}, {float.Fma(neg0, one, neg0), neg0}, {float.Fma(neg0, one, 0), 0}, {float.Fma(one, one, inf|neg0), inf | neg0},
	} {
		if x[0] != x[1] {
			t.Errorf("line %d: %x; want %x", i, x[0], x[1])
		}
	}
}
