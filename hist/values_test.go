package hist_test

import (
	"math"
	"math/rand"
	"slices"
	"testing"

	"fathom/api"
	"fathom/hist"
)

func TestPlace(t *testing.T) {
	for _, c := range []struct{ q, n, want uint64 }{
		{f(0.5), 5, 3}, {0, 5, 1}, {minus(0), 5, 1}, {0x3fb999999999999a, 10, 2}, {0x3fb9999999999999, 10, 1},
		{1, 1, 1}, {1, math.MaxUint64, 1}, {f(1), 1, 1}, {f(1), math.MaxUint64, math.MaxUint64}, {f(1) - 1, math.MaxUint64, math.MaxUint64 - 1<<11 + 1},
		{f(0.5), math.MaxUint64, 1 << 63}, {f(0.5), 1<<63 + 1, 1<<62 + 1}, {f(0.5), 1 << 63, 1 << 62},
		{0, 0, 0}, {f(0.5), 0, 0}, {f(1), 0, 0}, {minus(0), 0, 0},
	} {
		k, e := hist.Place(c.q, c.n)
		is(t, "Place", [3]uint64{c.q, c.n, k}, [3]uint64{c.q, c.n, c.want})
		is(t, "Place's error", e, api.OK)
	}
	for _, q := range noShares() {
		for _, n := range []uint64{0, 1, 5, math.MaxUint64} {
			if k, e := hist.Place(q, n); k != 0 || e != api.ErrHistRank {
				t.Errorf("Place(%x, %d): %d, %d", q, n, k, e)
			}
		}
	}
}

func TestPlaceOfAny(t *testing.T) {
	r := rand.New(rand.NewSource(196))
	for range 3000 {
		q, n := anyShare(r), r.Uint64()>>r.Intn(64)
		k, e := hist.Place(q, n)
		is(t, "Place", [3]uint64{q, n, k}, [3]uint64{q, n, placed(q, n)})
		is(t, "Place's error", e, api.OK)
	}
}

func TestValuesExamples(t *testing.T) {
	l := []uint64{f(3), f(1), f(4), f(2)}
	for q, want := range map[uint64]float64{f(0.5): 2, 0: 1, minus(0): 1, f(1): 4, f(0.51): 3, f(0.25): 1, f(0.25) + 1: 2} {
		v, ok, e := hist.Exact(l, q)
		is(t, "Exact", [2]uint64{q, v}, [2]uint64{q, f(want)})
		is(t, "Exact's ok", ok, true)
		is(t, "Exact's error", e, api.OK)
	}
	for q, want := range map[uint64]float64{f(0.5): 2.5, 0x3fd5555555555555: 2, 0: 1, minus(0): 1, f(1): 4} {
		v, ok, e := hist.Blend(l, q)
		is(t, "Blend", [2]uint64{q, v}, [2]uint64{q, f(want)})
		is(t, "Blend's ok", ok, true)
		is(t, "Blend's error", e, api.OK)
	}
}

// asked: both calls of values and a share.
func asked() map[string]func(l []uint64, q uint64) (uint64, bool, api.Errno) {
	return map[string]func(l []uint64, q uint64) (uint64, bool, api.Errno){"Exact": hist.Exact, "Blend": hist.Blend}
}

func TestValuesOfNone(t *testing.T) {
	for what, ask := range asked() {
		for _, l := range [][]uint64{nil, {}, {api.NaN64}, {minus(api.NaN64), api.Inf64 + 1, math.MaxUint64}} {
			for _, q := range shares() {
				if v, ok, e := ask(l, q); v != 0 || ok || e != api.OK {
					t.Errorf("%s(%x, %x): %x, %v, %d", what, l, q, v, ok, e)
				}
			}
			for _, l := range [][]uint64{l, {f(1), f(2)}} {
				for _, q := range noShares() {
					if v, ok, e := ask(l, q); v != 0 || ok || e != api.ErrHistRank {
						t.Errorf("%s(%x, %x): %x, %v, %d", what, l, q, v, ok, e)
					}
				}
			}
		}
	}
}

// TestValuesOfOne: a lone value is told at each share, its very bits.
func TestValuesOfOne(t *testing.T) {
	for what, ask := range asked() {
		for _, v := range kept(edges()) {
			for _, q := range shares() {
				got, ok, e := ask([]uint64{api.NaN64, v, minus(api.NaN64)}, q)
				is(t, what, [2]uint64{q, got}, [2]uint64{q, v})
				is(t, what+"'s ok", ok, true)
				is(t, what+"'s error", e, api.OK)
			}
		}
	}
}

func TestValuesOfAny(t *testing.T) {
	r := rand.New(rand.NewSource(197))
	for range 4000 {
		l, q := anyValues(r, 1+r.Intn(12)), anyShare(r)
		s := kept(l)
		if len(s) == 0 {
			continue
		}
		v, ok, e := hist.Exact(l, q)
		is(t, "Exact", v, s[placed(q, uint64(len(s)))-1])
		is(t, "Exact's ok", ok, true)
		is(t, "Exact's error", e, api.OK)
		v, ok, e = hist.Blend(l, q)
		is(t, "Blend", v, blended(s, q))
		is(t, "Blend's ok", ok, true)
		is(t, "Blend's error", e, api.OK)
	}
}

// TestBlendOfTwo: what lies between each two of the edges, also those that are far from one another, and at the bounds of floats.
func TestBlendOfTwo(t *testing.T) {
	l := append(kept(edges()), 2, 3, minus(2), minus(3), f(1e-300), f(-1e300), f(0.1), f(-0.3))
	for _, a := range l {
		for _, b := range l {
			for _, q := range append(shares(), 1<<52, 12345, f(0.3), f(1e-200)) {
				v, ok, e := hist.Blend([]uint64{a, b}, q)
				is(t, "Blend", [4]uint64{a, b, q, v}, [4]uint64{a, b, q, blended(kept([]uint64{a, b}), q)})
				is(t, "Blend's ok", ok, true)
				is(t, "Blend's error", e, api.OK)
			}
		}
	}
}

func TestBlendEdges(t *testing.T) {
	half := f(0.5)
	inf, low := uint64(api.Inf64), minus(api.Inf64)
	for _, c := range []struct{ a, b, q, want uint64 }{
		{minus(0), minus(0), half, minus(0)},
		{0, 0, half, 0},
		{minus(0), 0, half, 0},
		{minus(0), 0, 0, minus(0)},
		{f(-1), f(1), half, 0},
		{minus(1), 0, f(0.75), minus(0)},
		{minus(1), 0, half, minus(0)},
		{minus(1), 0, f(0.25), minus(1)},
		{0, 1, half, 0},
		{1, 2, half, 2},
		{2, 3, half, 2},
		{f(1), f(1) + 1, half, f(1)},
		{f(1) + 1, f(1) + 2, half, f(1) + 2},
		{f(1) + 1, f(1) + 2, half - 1, f(1) + 1},
		{inf - 1, minus(inf - 1), half, 0},
		{inf - 1, inf - 2, f(0.75), inf - 1},
		{f(5), inf, 1, inf}, {f(5), inf, 0, f(5)},
		{low, f(5), f(1) - 1, low}, {low, f(5), f(1), f(5)},
		{low, inf, half, api.NaN64}, {low, inf, 0, low}, {low, inf, f(1), inf},
		{inf, inf, half, inf}, {low, low, half, low},
	} {
		v, _, _ := hist.Blend([]uint64{c.b, c.a}, c.q)
		is(t, "Blend", [4]uint64{c.a, c.b, c.q, v}, [4]uint64{c.a, c.b, c.q, c.want})
	}
}

// TestValuesMemory: what is handed in stays as it is, also behind its length.
func TestValuesMemory(t *testing.T) {
	r := rand.New(rand.NewSource(198))
	for what, ask := range asked() {
		for range 50 {
			room := anyValues(r, 12)
			before := slices.Clone(room)
			ask(room[2:8], anyShare(r))
			if !slices.Equal(room, before) {
				t.Fatalf("%s: changed what was handed in", what)
			}
		}
	}
}
