package float_test

import (
	"math"
	"math/big"
	"math/rand"
	"testing"

	"fathom/api"
	"fathom/float"
)

// narrowOf is P3.5's Narrow.
func narrowOf(b uint64) uint32 {
	neg := wide.neg(b)
	switch {
	case wide.isNaN(b):
		payload := b & (1<<51 - 1)
		return uint32(narrow.signed(neg, narrow.nan()|payload>>(51-22)))
	case wide.isInf(b):
		return uint32(narrow.signed(neg, narrow.inf()))
	}
	x := wide.number(b)
	return uint32(narrow.signed(neg, narrow.nearest(exact{m: new(big.Int).Abs(x.m), e: x.e})))
}

// midways are binary64s midway between two binary32s that are neighbours, and next to them.
func midways() []uint64 {
	l := []uint64{}
	for _, f := range patterns[uint32](3000) {
		if narrow.isNaN(uint64(f)) || narrow.isInf(uint64(f)) {
			continue
		}
		x, y := narrow.number(uint64(f)&^narrow.sign()), narrow.number(uint64(f)&^narrow.sign()+1)
		mid := plus(x, y)
		mid.e--
		b := wide.signed(narrow.neg(uint64(f)), wide.nearest(mid))
		l = append(l, b-1, b, b+1)
	}
	return l
}

// P3.5: the nearest binary32, at midways and where it is subnormal or too great; NaNs keep what has room.
func TestNarrow(t *testing.T) {
	for _, b := range append(patterns[uint64](30000), midways()...) {
		if n, want := float.Narrow(b), narrowOf(b); n != want {
			t.Fatalf("Narrow(%x): %x; want %x", b, n, want)
		}
	}
	for b, want := range map[uint64]uint32{
		0x3ff0000010000000: 0x3f800000, 0x3ff0000030000000: 0x3f800002, 0x47efffffefffffff: 0x7f7fffff, 0x47effffff0000000: 0x7f800000, 0xc7effffff0000000: 0xff800000,
		0x7ff0000000000001: 0x7fc00000, 0xfff4000020000000: 0xffe00001, 0x7fffffffffffffff: 0x7fffffff, 0xfff800001fffffff: 0xffc00000, 1: 0, 0x8000000000000001: 0x80000000,
		f(0x1p-150): 0, f(0x1.0000000000001p-150): 1, f(-0x1p-149): 0x80000001, f(0x1.8p-149): 2,
	} {
		if n := float.Narrow(b); n != want {
			t.Errorf("Narrow(%x): %x; want %x", b, n, want)
		}
	}
}

// P3.5, P3.9, P3.10: from half a step beyond the greatest binary32 on it is an infinity; below that the greatest one.
func TestTooGreat(t *testing.T) {
	for b, want := range map[uint64]uint32{
		0x47efffffe0000000: 0x7f7fffff, 0x47efffffe0000001: 0x7f7fffff, 0x47efffffefffffff: 0x7f7fffff, 0x47effffff0000000: 0x7f800000, 0x47effffff0000001: 0x7f800000, 0x47f0000000000000: 0x7f800000, 0x7fefffffffffffff: 0x7f800000, 0x7ff0000000000000: 0x7f800000,
	} {
		if n := float.Narrow(b); n != want {
			t.Errorf("Narrow(%x): %x; want %x", b, n, want)
		}
		if n := float.Narrow(b | api.Neg64); n != want|api.Neg32 {
			t.Errorf("Narrow(%x): %x; want %x", b|api.Neg64, n, want|api.Neg32)
		}
		if n := float.Un(api.UnThin, b); n != widenOf(want) {
			t.Errorf("Un(UnThin, %x): %x; want %x", b, n, widenOf(want))
		}
		if n := float.Un(api.UnThin, b|api.Neg64); n != widenOf(want|api.Neg32) {
			t.Errorf("Un(UnThin, %x): %x; want %x", b|api.Neg64, n, widenOf(want|api.Neg32))
		}
	}
	great, inf, neg := uint32(0x7f7fffff), uint32(api.Inf32), uint32(api.Neg32)
	for i, x := range [][2]uint32{
		{float.Add(great, great), inf}, {float.Add(great|neg, great|neg), inf | neg}, {float.Sub(great, great|neg), inf}, {float.Sub(great|neg, great), inf | neg},
		{float.Mul(great, great), inf}, {float.Mul(great|neg, great), inf | neg}, {float.Mul(great|neg, great|neg), inf}, {float.Div(great, 1), inf}, {float.Div(great, 1|neg), inf | neg}, {float.Div(great, 0x3f7fffff), inf}, {float.Div(great-1, 0x3f7fffff), great},
		{float.Add(great, 0x72ffffff), great}, {float.Add(great, 0x73000000), inf}, {float.Add(great|neg, 0xf2ffffff), great | neg}, {float.Add(great|neg, 0xf3000000), inf | neg},
	} {
		if x[0] != x[1] {
			t.Errorf("line %d: %x; want %x", i, x[0], x[1])
		}
	}
}

// widenOf is P3.5's Widen.
func widenOf(f uint32) uint64 {
	b, neg := uint64(f), narrow.neg(uint64(f))
	switch {
	case narrow.isNaN(b):
		return wide.signed(neg, wide.inf()|b&(1<<23-1)<<29)
	case narrow.isInf(b):
		return wide.signed(neg, wide.inf())
	case narrow.isNought(b):
		return wide.signed(neg, 0)
	}
	return wide.nearest(narrow.number(b))
}

// widensBack fails unless Widen is the very number, and Narrow the way back (P3.11).
func widensBack(t *testing.T, f uint32) {
	w := float.Widen(f)
	if want := widenOf(f); w != want {
		t.Fatalf("Widen(%x): %x; want %x", f, w, want)
	}
	want := f
	if float.Class(f) == api.ClassSignal {
		want |= 1 << 22
	}
	if n := float.Narrow(w); n != want {
		t.Fatalf("Narrow(Widen(%x)): %x; want %x", f, n, want)
	}
	if float.Class(w) != float.Class(f) && float.Class(f) != api.ClassSub {
		t.Fatalf("Widen(%x) is of another class", f)
	}
}

// P3.5, P3.11: every binary32 is a binary64, and comes back.
func TestWiden(t *testing.T) {
	for _, f := range patterns[uint32](20000) {
		widensBack(t, f)
	}
	for f := uint64(0); f <= math.MaxUint32; f += 104729 {
		widensBack(t, uint32(f))
	}
	for f, want := range map[uint32]uint64{0x7f800001: 0x7ff0000020000000, 0xffffffff: 0xffffffffe0000000, 1: 0x36a0000000000000, api.Neg32: api.Neg64, 0xff800000: 0xfff0000000000000} {
		if w := float.Widen(f); w != want {
			t.Errorf("Widen(%x): %x; want %x", f, w, want)
		}
	}
}

// wholes are whole numbers at powers of 2, at ties of both widths, and others.
func wholes() []uint64 {
	l, r := []uint64{}, rand.New(rand.NewSource(4))
	for i := range 64 {
		for _, j := range []int{0, 1, 23, 24, 25, 52, 53, 54} {
			base := uint64(1) << i
			step := base >> j
			l = append(l, base, base-1, base+1, base+step, base+step-1, base+step+1, base-step, base-step-1, base-step+1, base+3*step, base+3*step+1, base+3*step-1)
		}
	}
	for range 50000 {
		l = append(l, r.Uint64()>>r.Intn(64))
	}
	return append(l, math.MaxUint64, math.MaxUint64-1, 0, math.MaxInt64, 1<<63)
}

// P3.6: whole numbers, rounded once.
func TestFromWhole(t *testing.T) {
	for _, n := range wholes() {
		x := exact{m: new(big.Int).SetUint64(n)}
		if b, want := float.FromUint(n), wide.nearest(x); b != want {
			t.Fatalf("FromUint(%d): %x; want %x", n, b, want)
		}
		x.m = big.NewInt(int64(n))
		if b, want := float.FromInt(int64(n)), wide.nearest(x); b != want {
			t.Fatalf("FromInt(%d): %x; want %x", int64(n), b, want)
		}
		if b, want := float.FromInt32(int64(n)), uint32(narrow.nearest(x)); b != want {
			t.Fatalf("FromInt32(%d): %x; want %x", int64(n), b, want)
		}
	}
	if float.FromInt(0) != 0 || float.FromUint(0) != 0 || float.FromInt32(0) != 0 {
		t.Error("of 0: not +0")
	}
	if float.FromInt(1<<53+1) != f(1<<53) || float.FromInt(1<<53+3) != f(1<<53+4) || float.FromUint(math.MaxUint64) != 0x43f0000000000000 || float.FromInt(math.MinInt64) != f(-0x1p63) {
		t.Error("the chapter's whole numbers")
	}
	// By way of a binary64 this one would become a tie.
	if b := float.FromInt32(1<<60 + 1<<36 + 1); b != 0x5d800001 {
		t.Errorf("FromInt32 rounds twice: %x", b)
	}
	if b := float.FromInt32(1<<24 + 1); b != 0x4b800000 {
		t.Errorf("FromInt32(2^24 + 1): %x", b)
	}
}
