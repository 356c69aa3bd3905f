package float_test

import (
	"math/rand"
	"slices"
	"testing"

	"fathom/api"
	"fathom/float"
)

// patterns tells the edges of a width, and many others.
func patterns[T float.Word](n int) []T {
	s, r := shapeOf[T](), rand.New(rand.NewSource(3))
	l := s.edges()
	for range n {
		l = append(l, s.some(r, l[r.Intn(len(l))]))
	}
	words := make([]T, len(l))
	for i, b := range l {
		words[i] = T(b)
	}
	return words
}

func classOf(s shape, b uint64) int {
	field, fraction := b&s.inf(), b&(1<<s.fraction-1)
	switch {
	case field == s.inf() && fraction == 0:
		return api.ClassInf
	case field == s.inf() && fraction>>(s.fraction-1) == 1:
		return api.ClassQuiet
	case field == s.inf():
		return api.ClassSignal
	case field > 0:
		return api.ClassNormal
	case fraction > 0:
		return api.ClassSub
	}
	return api.ClassZero
}

func classes[T float.Word](t *testing.T) {
	s := shapeOf[T]()
	met := map[int]bool{}
	for _, b := range patterns[T](20000) {
		c := float.Class(b)
		met[c] = true
		if want := classOf(s, uint64(b)); c != want {
			t.Fatalf("Class(%x): %d; want %d", b, c, want)
		}
	}
	if len(met) != 6 {
		t.Fatalf("of the classes only %v were met", met)
	}
}

// P3.1: the six classes, of both widths.
func TestClass(t *testing.T) {
	classes[uint64](t)
	classes[uint32](t)
	for b, want := range map[uint64]int{
		0: api.ClassZero, api.Neg64: api.ClassZero, 1: api.ClassSub, 0x000fffffffffffff: api.ClassSub, 0x0010000000000000: api.ClassNormal, 0xffefffffffffffff: api.ClassNormal,
		api.Inf64: api.ClassInf, api.Inf64 | api.Neg64: api.ClassInf, 0xfff0000000000001: api.ClassSignal, 0x7ff7ffffffffffff: api.ClassSignal, api.NaN64: api.ClassQuiet, 0xffffffffffffffff: api.ClassQuiet,
	} {
		if c := float.Class(b); c != want {
			t.Errorf("Class(%x): %d; want %d", b, c, want)
		}
	}
	for b, want := range map[uint32]int{
		0: api.ClassZero, api.Neg32: api.ClassZero, 1: api.ClassSub, 0x807fffff: api.ClassSub, 0x00800000: api.ClassNormal, 0x7f7fffff: api.ClassNormal,
		api.Inf32: api.ClassInf, api.Inf32 | api.Neg32: api.ClassInf, 0x7f800001: api.ClassSignal, 0xffbfffff: api.ClassSignal, api.NaN32: api.ClassQuiet, 0xffffffff: api.ClassQuiet,
	} {
		if c := float.Class(b); c != want {
			t.Errorf("Class(%x): %d; want %d", b, c, want)
		}
	}
}

func keys[T float.Word](t *testing.T) {
	s := shapeOf[T]()
	for _, b := range patterns[T](20000) {
		want := b | T(s.sign())
		if s.neg(uint64(b)) {
			want = ^b
		}
		if k := float.Key(b); k != want || float.OfKey(k) != b {
			t.Fatalf("Key(%x): %x; want %x; back %x", b, k, want, float.OfKey(k))
		}
		if k := float.Key(float.OfKey(b)); k != b {
			t.Fatalf("Key(OfKey(%x)): %x", b, k)
		}
	}
	inf, sign, nan := T(s.inf()), T(s.sign()), T(s.nan())
	rising := []T{^T(0), sign | nan, sign | inf + 1, sign | inf, sign | inf - 1, sign | 2, sign | 1, sign, 0, 1, 2, inf - 1, inf, inf + 1, nan, sign - 1}
	for i, a := range rising {
		for j, b := range rising {
			if (i < j) != (float.Key(a) < float.Key(b)) {
				t.Errorf("the keys of %x and %x are the wrong way round", a, b)
			}
		}
	}
	if float.Key(rising[0]) != 0 || float.Key(rising[len(rising)-1]) != ^T(0) {
		t.Error("the order's ends")
	}
}

// P3.2: the order of all patterns.
func TestKey(t *testing.T) {
	keys[uint64](t)
	keys[uint32](t)
	if float.Key(uint64(0)) != 0x8000000000000000 || float.Key(uint64(api.Neg64)) != 0x7fffffffffffffff || float.Key(^uint64(0)) != 0 {
		t.Error("Key of noughts and of the last NaN")
	}
}

func distances[T float.Word](t *testing.T) {
	l := patterns[T](200)
	for _, a := range l {
		for _, b := range l {
			k := []T{float.Key(a), float.Key(b)}
			slices.Sort(k)
			if d := float.Distance(a, b); d != k[1]-k[0] {
				t.Fatalf("Distance(%x, %x): %x; want %x", a, b, d, k[1]-k[0])
			}
		}
	}
	s := shapeOf[T]()
	if d := float.Distance(T(s.sign()), 0); d != 1 {
		t.Errorf("Distance(-0, +0): %x", d)
	}
	if d := float.Distance(^T(0), T(s.sign()-1)); d != ^T(0) {
		t.Errorf("Distance from end to end: %x", d)
	}
}

// P3.2: distances, the same both ways, up to the whole order.
func TestDistance(t *testing.T) {
	distances[uint64](t)
	distances[uint32](t)
}

// above tells the least number above b, by the chapter's words.
func above(s shape, b uint64) uint64 {
	switch {
	case s.isNaN(b):
		return s.nan()
	case b == s.inf():
		return b
	case s.isNought(b):
		return 1
	case s.neg(b):
		return b - 1
	}
	return b + 1
}

func steps[T float.Word](t *testing.T) {
	s := shapeOf[T]()
	for _, b := range patterns[T](20000) {
		if u, want := float.Up(b), T(above(s, uint64(b))); u != want {
			t.Fatalf("Up(%x): %x; want %x", b, u, want)
		}
		want := T(above(s, uint64(b)^s.sign()) ^ s.sign())
		if s.isNaN(uint64(b)) {
			want = T(s.nan())
		}
		if d := float.Down(b); d != want {
			t.Fatalf("Down(%x): %x; want %x", b, d, want)
		}
	}
}

// P3.3: the next numbers.
func TestUpDown(t *testing.T) {
	steps[uint64](t)
	steps[uint32](t)
	for _, x := range [][3]uint64{
		{0, 1, 0x8000000000000001},
		{0x8000000000000000, 1, 0x8000000000000001},
		{1, 2, 0},
		{0x8000000000000001, 0x8000000000000000, 0x8000000000000002},
		{0x7fefffffffffffff, 0x7ff0000000000000, 0x7feffffffffffffe},
		{0xffefffffffffffff, 0xffeffffffffffffe, 0xfff0000000000000},
		{0x7ff0000000000000, 0x7ff0000000000000, 0x7fefffffffffffff},
		{0xfff0000000000000, 0xffefffffffffffff, 0xfff0000000000000},
		{0xfff0000000000001, api.NaN64, api.NaN64},
		{0xffffffffffffffff, api.NaN64, api.NaN64},
	} {
		if u, d := float.Up(x[0]), float.Down(x[0]); u != x[1] || d != x[2] {
			t.Errorf("Up and Down of %x: %x, %x; want %x, %x", x[0], u, d, x[1], x[2])
		}
	}
	if float.Up(uint32(0xffffffff)) != api.NaN32 || float.Down(uint32(0xff800001)) != api.NaN32 {
		t.Error("NaNs of 32 bits")
	}
}

func compares[T float.Word](t *testing.T) {
	s := shapeOf[T]()
	l := patterns[T](200)
	for _, a := range l {
		for _, b := range l {
			want, known := 0, !s.isNaN(uint64(a)) && !s.isNaN(uint64(b))
			switch {
			case !known || s.isNought(uint64(a)) && s.isNought(uint64(b)):
			case float.Key(a) < float.Key(b):
				want = -1
			case float.Key(a) > float.Key(b):
				want = 1
			}
			if c, ok := float.Cmp(a, b); c != want || ok != known {
				t.Fatalf("Cmp(%x, %x): %d, %v; want %d, %v", a, b, c, ok, want, known)
			}
		}
	}
}

// P3.4, P3.11: numbers against each other, as their keys are; noughts are one, NaNs none.
func TestCmp(t *testing.T) {
	compares[uint64](t)
	compares[uint32](t)
}
