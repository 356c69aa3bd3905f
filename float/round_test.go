package float_test

import (
	"math"
	"math/big"
	"testing"

	"fathom/api"
	"fathom/float"
)

// wholeOf rounds an exact number to a whole one.
func wholeOf(x exact, mode int) *big.Int {
	if x.e >= 0 {
		return new(big.Int).Lsh(x.m, uint(x.e))
	}
	step := new(big.Int).Lsh(big.NewInt(1), uint(-x.e))
	floor, rest := new(big.Int).DivMod(x.m, step, new(big.Int))
	c := new(big.Int).Lsh(rest, 1).Cmp(step)
	up := false
	switch mode {
	case api.RoundEven:
		up = c > 0 || c == 0 && floor.Bit(0) == 1
	case api.RoundAway:
		up = c > 0 || c == 0 && x.m.Sign() > 0
	case api.RoundZero:
		up = x.m.Sign() < 0 && rest.Sign() > 0
	case api.RoundCeil:
		up = rest.Sign() > 0
	}
	if up {
		floor.Add(floor, big.NewInt(1))
	}
	return floor
}

// halves are numbers at which roundings turn: whole ones, halves, and what is next to them.
func halves() []uint64 {
	l := []uint64{}
	for _, n := range []float64{0, 1, 2, 3, 4, 5, 6, 7, 8, 1<<51 - 1, 1 << 51, 1<<51 + 1, 1<<52 - 1, 1 << 52, 1<<52 + 1, 1<<53 - 1, 1 << 53, 1<<62 - 512, 1 << 62, 1<<63 - 1024, 1 << 63, 1<<63 + 2048, 1 << 64} {
		for _, x := range []float64{n, n + 0.5, n + 0.25, n + 0.75} {
			l = append(l, f(x), f(-x), float.Up(f(x)), float.Down(f(x)), float.Up(f(-x)), float.Down(f(-x)))
		}
	}
	return l
}

// P3.7: to whole numbers, in all modes.
func TestToIntAndRound(t *testing.T) {
	for _, b := range append(patterns[uint64](20000), halves()...) {
		for _, mode := range modes() {
			n, e := float.ToInt(b, mode)
			r, re := float.Round(b, mode)
			if wide.isNaN(b) || wide.isInf(b) {
				want := b
				if wide.isNaN(b) {
					want = api.NaN64
				}
				if n != 0 || e != api.ErrFloatRange || r != want || re != api.OK {
					t.Fatalf("ToInt, Round of %x: %d, %d; %x, %d", b, n, e, r, re)
				}
				continue
			}
			x := wholeOf(wide.number(b), mode)
			want, wantE := int64(0), api.ErrFloatRange
			if x.IsInt64() {
				want, wantE = x.Int64(), api.OK
			}
			if n != want || e != wantE {
				t.Fatalf("ToInt(%x, %d): %d, error %d; want %d, error %d", b, mode, n, e, want, wantE)
			}
			nearest := wide.signed(wide.neg(b), wide.nearest(exact{m: x}))
			if r != nearest || re != api.OK {
				t.Fatalf("Round(%x, %d): %x, error %d; want %x", b, mode, r, re, nearest)
			}
		}
	}
}

// P3.7: the chapter's examples, and int64's ends.
func TestToIntExamples(t *testing.T) {
	for _, x := range []struct {
		x    float64
		mode int
		n    int64
		e    api.Errno
	}{
		{2.5, api.RoundEven, 2, api.OK}, {2.5, api.RoundAway, 3, api.OK}, {2.5, api.RoundZero, 2, api.OK}, {2.5, api.RoundFloor, 2, api.OK}, {2.5, api.RoundCeil, 3, api.OK},
		{-2.5, api.RoundEven, -2, api.OK}, {-2.5, api.RoundAway, -3, api.OK}, {-2.5, api.RoundZero, -2, api.OK}, {-2.5, api.RoundFloor, -3, api.OK}, {-2.5, api.RoundCeil, -2, api.OK},
		{0x1p63, api.RoundZero, 0, api.ErrFloatRange}, {-0x1p63, api.RoundFloor, math.MinInt64, api.OK}, {0x1.fffffffffffffp62, api.RoundCeil, math.MaxInt64 - 1023, api.OK},
		{-0x1.0000000000001p63, api.RoundCeil, 0, api.ErrFloatRange}, {math.Inf(1), api.RoundEven, 0, api.ErrFloatRange}, {math.Inf(-1), api.RoundEven, 0, api.ErrFloatRange},
	} {
		if n, e := float.ToInt(f(x.x), x.mode); n != x.n || e != x.e {
			t.Errorf("ToInt(%v, %d): %d, error %d; want %d, error %d", x.x, x.mode, n, e, x.n, x.e)
		}
	}
	for _, x := range []struct {
		x    float64
		mode int
		want uint64
	}{{-0.25, api.RoundEven, api.Neg64}, {-0.75, api.RoundCeil, api.Neg64}, {-0.75, api.RoundZero, api.Neg64}, {0.25, api.RoundFloor, 0}, {-0.25, api.RoundFloor, f(-1)}, {0.49999999999999994, api.RoundAway, 0}, {-0.5, api.RoundAway, f(-1)}, {-0.5, api.RoundEven, api.Neg64}} {
		if r, e := float.Round(f(x.x), x.mode); r != x.want || e != api.OK {
			t.Errorf("Round(%v, %d): %x, error %d; want %x", x.x, x.mode, r, e, x.want)
		}
	}
}

// P3.7: a mode that is none is told ahead of all else, beside noughts.
func TestNoMode(t *testing.T) {
	for _, mode := range noModes() {
		for _, b := range wide.edges() {
			if n, e := float.ToInt(b, mode); n != 0 || e != api.ErrFloatMode {
				t.Fatalf("ToInt(%x, %d): %d, error %d", b, mode, n, e)
			}
			if r, e := float.Round(b, mode); r != 0 || e != api.ErrFloatMode {
				t.Fatalf("Round(%x, %d): %x, error %d", b, mode, r, e)
			}
		}
	}
}
