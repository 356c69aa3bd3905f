package float_test

import (
	"math"
	"testing"

	"fathom/api"
	"fathom/float"
)

// unOf is P3.10's Un.
func unOf(op int, a uint64) uint64 {
	if op == api.UnIsNaN {
		return truth(wide.isNaN(a))
	}
	if wide.isNaN(a) {
		return api.NaN64
	}
	switch op {
	case api.UnNeg:
		return a ^ api.Neg64
	case api.UnAbs:
		return a &^ api.Neg64
	case api.UnRoot:
		return wide.root(a)
	case api.UnEven:
		return rounded(a, api.RoundEven)
	case api.UnAway:
		return rounded(a, api.RoundAway)
	case api.UnZero:
		return rounded(a, api.RoundZero)
	case api.UnFloor:
		return rounded(a, api.RoundFloor)
	case api.UnCeil:
		return rounded(a, api.RoundCeil)
	case api.UnThin:
		return widenOf(narrowOf(a))
	}
	return api.NaN64
}

func rounded(a uint64, mode int) uint64 {
	if wide.isInf(a) {
		return a
	}
	return wide.signed(wide.neg(a), wide.nearest(exact{m: wholeOf(wide.number(a), mode)}))
}

func truth(is bool) uint64 {
	if is {
		return f(1)
	}
	return 0
}

// binOf is P3.10's Bin; by Key and Cmp, which other tests hold against the chapter.
func binOf(op int, a, b uint64) uint64 {
	c, known := float.Cmp(a, b)
	isTrue := func(x uint64) bool { return !wide.isNaN(x) && !wide.isNought(x) }
	switch op {
	case api.BinAdd:
		return wide.add(a, b)
	case api.BinSub:
		return wide.sub(a, b)
	case api.BinMul:
		return wide.mul(a, b)
	case api.BinDiv:
		return wide.div(a, b)
	case api.BinMin, api.BinMax:
		if !known {
			return api.NaN64
		}
		if (op == api.BinMin) == (float.Key(a) < float.Key(b)) {
			return a
		}
		return b
	case api.BinLt:
		return truth(known && c < 0)
	case api.BinLe:
		return truth(known && c <= 0)
	case api.BinEq:
		return truth(known && c == 0)
	case api.BinNe:
		return truth(!known || c != 0)
	case api.BinGe:
		return truth(known && c >= 0)
	case api.BinGt:
		return truth(known && c > 0)
	case api.BinAnd:
		return truth(isTrue(a) && isTrue(b))
	case api.BinOr:
		return truth(isTrue(a) || isTrue(b))
	}
	return api.NaN64
}

func noOps() []int { return []int{math.MinInt, -1, 0, 99, 1 << 32, 1<<32 + 1, math.MaxInt} }

// P3.10: operations of one number; any other op tells the one NaN.
func TestUn(t *testing.T) {
	ops := append(noOps(), api.UnIsNaN+1)
	for op := api.UnNeg; op <= api.UnIsNaN; op++ {
		ops = append(ops, op)
	}
	for _, a := range append(append(patterns[uint64](5000), halves()...), midways()[:3000]...) {
		for _, op := range ops {
			if r, want := float.Un(op, a), unOf(op, a); r != want {
				t.Fatalf("Un(%d, %x): %x; want %x", op, a, r, want)
			}
		}
	}
	for i, x := range [][2]uint64{
		{float.Un(api.UnNeg, 0xfff8000000000123), api.NaN64}, {float.Un(api.UnNeg, 0), api.Neg64}, {float.Un(api.UnNeg, api.Neg64), 0}, {float.Un(api.UnAbs, api.Neg64), 0}, {float.Un(api.UnAbs, 0xfff0000000000001), api.NaN64},
		{float.Un(api.UnRoot, f(9)), f(3)}, {float.Un(api.UnEven, f(-2.5)), f(-2)}, {float.Un(api.UnAway, f(-2.5)), f(-3)}, {float.Un(api.UnZero, f(-2.5)), f(-2)}, {float.Un(api.UnFloor, f(-2.5)), f(-3)}, {float.Un(api.UnCeil, f(-2.5)), f(-2)},
		{float.Un(api.UnThin, 0x3ff0000010000001), 0x3ff0000020000000}, {float.Un(api.UnThin, 0xfff4000020000000), api.NaN64}, {float.Un(api.UnIsNaN, 0xfff0000000000001), f(1)}, {float.Un(api.UnIsNaN, api.Inf64), 0},
	} {
		if x[0] != x[1] {
			t.Errorf("line %d: %x; want %x", i, x[0], x[1])
		}
	}
}

// P3.10: operations of two; any other op tells the one NaN.
func TestBin(t *testing.T) {
	ops := append(noOps(), api.BinOr+1)
	for op := api.BinAdd; op <= api.BinOr; op++ {
		ops = append(ops, op)
	}
	l := patterns[uint64](40)
	for _, a := range l {
		for _, b := range l {
			for _, op := range ops {
				if r, want := float.Bin(op, a, b), binOf(op, a, b); r != want {
					t.Fatalf("Bin(%d, %x, %x): %x; want %x", op, a, b, r, want)
				}
			}
		}
	}
	neg0, nan := uint64(api.Neg64), uint64(0xfff0000000000001)
	for i, x := range [][2]uint64{
		{float.Bin(api.BinMin, 0, neg0), neg0}, {float.Bin(api.BinMin, neg0, 0), neg0}, {float.Bin(api.BinMax, 0, neg0), 0}, {float.Bin(api.BinMax, neg0, 0), 0}, {float.Bin(api.BinMin, nan, f(1)), api.NaN64}, {float.Bin(api.BinMax, f(1), nan), api.NaN64}, {float.Bin(api.BinMin, nan, api.Inf64|neg0), api.NaN64},
		{float.Bin(api.BinEq, 0, neg0), f(1)}, {float.Bin(api.BinLt, neg0, 0), 0}, {float.Bin(api.BinNe, nan, nan), f(1)}, {float.Bin(api.BinEq, nan, nan), 0}, {float.Bin(api.BinLe, nan, f(1)), 0}, {float.Bin(api.BinGe, f(1), nan), 0},
		{float.Bin(api.BinAnd, nan, f(1)), 0}, {float.Bin(api.BinOr, nan, f(1)), f(1)}, {float.Bin(api.BinOr, nan, neg0), 0}, {float.Bin(api.BinAnd, 1, api.Inf64), f(1)},
	} {
		if x[0] != x[1] {
			t.Errorf("line %d: %x; want %x", i, x[0], x[1])
		}
	}
}

func waysBack[T float.Word](t *testing.T) {
	s := shapeOf[T]()
	for _, b := range patterns[T](20000) {
		x := uint64(b)
		if s.isNaN(x) || s.isNought(x) {
			continue
		}
		if b != T(s.inf()) && b != T(s.sign()|1) && float.Down(float.Up(b)) != b {
			t.Fatalf("Down(Up(%x)): %x", b, float.Down(float.Up(b)))
		}
		if b != T(s.inf()|s.sign()) && b != 1 && float.Up(float.Down(b)) != b {
			t.Fatalf("Up(Down(%x)): %x", b, float.Up(float.Down(b)))
		}
	}
}

// P3.11: Up and Down are each other's way back. (What else follows: TestKey, TestCmp, TestWiden, TestAddSubMulDiv.)
func TestWaysBack(t *testing.T) {
	waysBack[uint64](t)
	waysBack[uint32](t)
}

// P3.12: a call tells the same again, whatever stood between; none keeps anything.
func TestAgain(t *testing.T) {
	first := map[[2]uint64][4]uint64{}
	for range 2 {
		for _, a := range wide.edges() {
			for _, b := range wide.edges() {
				r, _ := float.Round(b, int(a%5))
				told := [4]uint64{float.Fma(a, b, b), float.Bin(int(b%15), a, b), float.Scale(a, int(b)), r}
				if was, ok := first[[2]uint64{a, b}]; ok && was != told {
					t.Fatalf("of %x and %x: %x, then %x", a, b, was, told)
				}
				first[[2]uint64{a, b}] = told
			}
		}
	}
}
