package exact_test

import (
	"math"
	"math/big"
	"math/rand"
	"slices"
	"testing"

	"fathom/api"
	"fathom/exact"
)

// path is the model of a Path: sums times 2^1074, the area taken twice.
type path struct {
	n, odd           uint64
	first, last      api.Point
	area, step, rise *big.Int
}

func pathOf(l []api.Point) path {
	x := path{n: uint64(len(l)), area: num(0), step: num(0), rise: num(0)}
	for _, p := range l {
		if !isFinite(p.V) {
			x.odd++
		}
	}
	if len(l) > 0 {
		x.first, x.last = l[0], l[len(l)-1]
	}
	for i := 1; i < len(l) && x.odd == 0; i++ {
		v, w, d := units(l[i-1].V), units(l[i].V), sub(num(l[i].T), num(l[i-1].T))
		x.area, x.step = add(x.area, mul(add(v, w), d)), add(x.step, mul(v, d))
		if w.Cmp(v) >= 0 {
			w = sub(w, v)
		}
		x.rise = add(x.rise, w)
	}
	return x
}

func pointForm(p api.Point) []byte {
	return slices.Concat(numForm(uint64(p.T)^1<<63, 8), numForm(p.V, 8))
}

func (x path) form() []byte {
	b := slices.Concat(numForm(x.n, 8), numForm(x.odd, 8))
	if x.n == 0 {
		return b
	}
	return slices.Concat(b, pointForm(x.first), pointForm(x.last), numberForm(x.area), numberForm(x.step), numberForm(x.rise))
}

func (x path) holds(t *testing.T, what string, a *exact.Path) {
	t.Helper()
	same(t, what+": Count", a.Count(), x.n)
	first, last, ok := a.Ends()
	if first != x.first || last != x.last || ok != (x.n > 0) {
		t.Fatalf("%s: Ends: %x, %x, %v", what, first, last, ok)
	}
	value := func(sum *big.Int, e int) told {
		switch {
		case x.n == 0:
			return told{}
		case x.odd > 0:
			return told{api.NaN64, true}
		}
		return told{nearest(ratio(sum, num(1), e)), true}
	}
	same(t, what+": Area", tell(a.Area()), value(x.area, -1075))
	same(t, what+": Step", tell(a.Step()), value(x.step, -1074))
	same(t, what+": Rise", tell(a.Rise()), value(x.rise, -1074))
	if b := a.Bytes(); !slices.Equal(b, x.form()) {
		t.Fatalf("%s: Bytes: %x; want %x", what, b, x.form())
	}
}

func walked(t *testing.T, l []api.Point) *exact.Path {
	t.Helper()
	a := &exact.Path{}
	for _, p := range l {
		same(t, "Add", a.Add(p), api.OK)
	}
	return a
}

// joined tells a Path of points that are cut into groups, which are joined, from the left or from the right.
func joined(t *testing.T, r *rand.Rand, l []api.Point) *exact.Path {
	t.Helper()
	if len(l) < 2 || r.Intn(4) == 0 {
		return walked(t, l)
	}
	n := r.Intn(len(l) + 1)
	a, b := joined(t, r, l[:n:n]), joined(t, r, l[n:])
	stays := b.Bytes()
	same(t, "Join", a.Join(b), api.OK)
	if !slices.Equal(b.Bytes(), stays) {
		t.Fatal("Join has changed the other one")
	}
	return a
}

func risingPoints(r *rand.Rand, n int) []api.Point {
	l, times := []api.Point{}, risingTimes(r, n)
	for i, v := range someValues(r, n) {
		l = append(l, api.Point{T: times[i], V: v})
	}
	return l
}

// P4.9 to P4.12: any points tell what the chapter says, joined in any grouping.
func TestPath(t *testing.T) {
	r := rand.New(rand.NewSource(52))
	for i := range 6000 {
		l := risingPoints(r, i%9)
		model := pathOf(l)
		model.holds(t, "added", walked(t, l))
		model.holds(t, "joined", joined(t, r, l))
		x, e := exact.PathOf(model.form())
		same(t, "PathOf", e, api.OK)
		model.holds(t, "read", x)
	}
}

// P4.9: times that don't rise are refused, and nothing has changed.
func TestPathTimes(t *testing.T) {
	l := []api.Point{{T: -5, V: f(1)}, {T: 3, V: f(2)}}
	a, model := walked(t, l), pathOf(l)
	for _, at := range []int64{3, 2, -5, -6, math.MinInt64} {
		same(t, "Add", a.Add(api.Point{T: at, V: f(9)}), api.ErrExactTime)
		same(t, "Add of a NaN", a.Add(api.Point{T: at, V: api.NaN64}), api.ErrExactTime)
		same(t, "Join", a.Join(walked(t, []api.Point{{T: at, V: f(9)}, {T: 100, V: f(3)}})), api.ErrExactTime)
	}
	same(t, "Join with itself", a.Join(a), api.ErrExactTime)
	same(t, "Join of nil", a.Join(nil), api.OK)
	same(t, "Join of none", a.Join(&exact.Path{}), api.OK)
	model.holds(t, "refused", a)
	none := &exact.Path{}
	same(t, "none with itself", none.Join(none), api.OK)
	same(t, "none with nil", none.Join(nil), api.OK)
	pathOf(nil).holds(t, "none", none)
	same(t, "Join to none", none.Join(a), api.OK)
	same(t, "Add behind", none.Add(api.Point{T: 4, V: f(5)}), api.OK)
	model.holds(t, "the other one", a)
	pathOf(append(slices.Clone(l), api.Point{T: 4, V: f(5)})).holds(t, "from none on", none)
	end := walked(t, []api.Point{{T: math.MinInt64, V: f(1)}, {T: math.MaxInt64, V: f(1)}})
	same(t, "behind the last time", end.Add(api.Point{T: math.MaxInt64, V: f(1)}), api.ErrExactTime)
}

// P4.10: the chapter's example, and its special cases.
func TestPathExamples(t *testing.T) {
	l := []api.Point{{T: 0, V: f(1)}, {T: 10, V: f(3)}, {T: 20, V: f(1)}}
	a := walked(t, l[:2])
	same(t, "Area", tell(a.Area()), told{f(20), true})
	same(t, "Step", tell(a.Step()), told{f(10), true})
	same(t, "Rise", tell(a.Rise()), told{f(2), true})
	a = walked(t, l)
	same(t, "Area", tell(a.Area()), told{f(40), true})
	same(t, "Step", tell(a.Step()), told{f(40), true})
	same(t, "Rise", tell(a.Rise()), told{f(3), true})
	one := walked(t, []api.Point{{T: 7, V: api.Neg64}})
	same(t, "Area of one", tell(one.Area()), told{0, true})
	same(t, "Step of one", tell(one.Step()), told{0, true})
	same(t, "Rise of one", tell(one.Rise()), told{0, true})
	odd := walked(t, []api.Point{{T: 7, V: api.Inf64}})
	same(t, "Area of one that is not finite", tell(odd.Area()), told{api.NaN64, true})
	same(t, "Rise of it", tell(odd.Rise()), told{api.NaN64, true})
	same(t, "Area of none", tell((&exact.Path{}).Area()), told{})
	down := walked(t, []api.Point{{T: 0, V: f(5)}, {T: 1, V: f(-2)}, {T: 2, V: f(-2)}, {T: 3, V: f(-1)}})
	same(t, "Rise from a fall", tell(down.Rise()), told{f(-1), true})
	noughts := walked(t, []api.Point{{T: 0, V: 0}, {T: 1, V: api.Neg64}, {T: 2, V: 0}})
	same(t, "Rise of noughts", tell(noughts.Rise()), told{0, true})
	same(t, "Area of noughts", tell(noughts.Area()), told{0, true})
	half := walked(t, []api.Point{{T: 0, V: 1}, {T: 1, V: 0}}) // 2^-1075: to the even one
	same(t, "Area of half a step", tell(half.Area()), told{0, true})
	low := walked(t, []api.Point{{T: 0, V: 1 | api.Neg64}, {T: 1, V: 0}})
	same(t, "Area below nought", tell(low.Area()), told{api.Neg64, true})
	big := uint64(api.Inf64 - 1)
	wide := walked(t, []api.Point{{T: math.MinInt64, V: big}, {T: math.MaxInt64, V: big}})
	same(t, "Area beyond", tell(wide.Area()), told{api.Inf64, true})
	pathOf([]api.Point{{T: math.MinInt64, V: big}, {T: math.MaxInt64, V: big}}).holds(t, "wide", wide)
}

// P4.9: MaxCount points at most; that goes ahead of the times. (So many points are to be had from a form alone.)
func TestPathFull(t *testing.T) {
	near := api.Point{T: api.MaxCount, V: f(1)}
	full, e := exact.PathOf(path{n: api.MaxCount, first: api.Point{T: 0, V: f(1)}, last: near, area: num(5), step: num(6), rise: num(7)}.form())
	same(t, "PathOf", e, api.OK)
	b := full.Bytes()
	for _, at := range []int64{0, api.MaxCount, api.MaxCount + 1} {
		same(t, "Add", full.Add(api.Point{T: at, V: f(1)}), api.ErrExactFull)
		same(t, "Join", full.Join(walked(t, []api.Point{{T: at, V: f(1)}})), api.ErrExactFull)
	}
	same(t, "Join with itself", full.Join(full), api.ErrExactFull)
	same(t, "Join of none", full.Join(&exact.Path{}), api.OK)
	same(t, "Join of nil", full.Join(nil), api.OK)
	if !slices.Equal(full.Bytes(), b) {
		t.Error("a refused call has changed something")
	}
	most, e := exact.PathOf(path{n: api.MaxCount - 1, first: api.Point{T: 0, V: f(1)}, last: near, area: num(5), step: num(6), rise: num(7)}.form())
	same(t, "PathOf", e, api.OK)
	same(t, "Join of two", most.Join(walked(t, []api.Point{{T: 1 << 60, V: f(1)}, {T: 1 << 61, V: f(1)}})), api.ErrExactFull)
	same(t, "Join of one", most.Join(walked(t, []api.Point{{T: 1 << 60, V: f(1)}})), api.OK)
	same(t, "Count", most.Count(), api.MaxCount)
	same(t, "Add to it", most.Add(api.Point{T: 1 << 61, V: f(1)}), api.ErrExactFull)
}

// P4.11: what is no state's form, and what is just one.
func TestPathOf(t *testing.T) {
	m, zero, one := greatest(), num(0), num(1)
	minus := func(x *big.Int) *big.Int { return new(big.Int).Neg(x) }
	at := func(t int64, v uint64) api.Point { return api.Point{T: t, V: v} }
	of := func(n, odd uint64, first, last api.Point, l ...*big.Int) path {
		return path{n: n, odd: odd, first: first, last: last, area: l[0], step: l[1], rise: l[2]}
	}
	const least, most = math.MinInt64, math.MaxInt64
	inf, nan, span := uint64(api.Inf64), uint64(0xfff0000000000001), sub(two(64), one)
	for i, c := range []struct {
		p  path
		ok bool
	}{
		{path{}, true}, {path{odd: 1}, false},
		{of(1, 0, at(5, f(1)), at(5, f(1)), zero, zero, zero), true}, {of(1, 0, at(5, f(1)), at(6, f(1)), zero, zero, zero), false}, {of(1, 0, at(5, f(1)), at(5, f(2)), zero, zero, zero), false}, {of(1, 0, at(5, 0), at(5, api.Neg64), zero, zero, zero), false}, {of(1, 0, at(5, f(1)), at(5, f(1)), one, zero, zero), false}, {of(1, 0, at(5, f(1)), at(5, f(1)), zero, one, zero), false}, {of(1, 0, at(5, f(1)), at(5, f(1)), zero, zero, one), false},
		{of(1, 1, at(5, nan), at(5, nan), zero, zero, zero), true}, {of(1, 0, at(5, nan), at(5, nan), zero, zero, zero), false}, {of(1, 2, at(5, nan), at(5, nan), zero, zero, zero), false}, {of(1, 1, at(5, nan), at(5, inf), zero, zero, zero), false}, {of(1, 1, at(5, f(1)), at(5, f(1)), zero, zero, zero), true}, // no rule of the chapter refuses it
		{of(2, 0, at(5, f(1)), at(6, f(1)), zero, zero, zero), true}, {of(2, 0, at(5, f(1)), at(5, f(1)), zero, zero, zero), false}, {of(2, 0, at(5, f(1)), at(4, f(1)), zero, zero, zero), false}, {of(3, 0, at(5, f(1)), at(6, f(1)), zero, zero, zero), false}, {of(3, 0, at(-1, f(1)), at(1, f(1)), zero, zero, zero), true}, {of(3, 0, at(most, f(1)), at(least, f(1)), zero, zero, zero), false},
		{of(api.MaxCount, 0, at(0, f(1)), at(api.MaxCount-1, f(1)), zero, zero, zero), true}, {of(api.MaxCount, 0, at(0, f(1)), at(api.MaxCount-2, f(1)), zero, zero, zero), false}, {of(api.MaxCount+1, 0, at(least, f(1)), at(most, f(1)), zero, zero, zero), false}, {of(math.MaxUint64, 0, at(least, f(1)), at(most, f(1)), zero, zero, zero), false},
		{of(2, 1, at(0, nan), at(6, f(1)), zero, zero, zero), true}, {of(2, 0, at(0, nan), at(6, f(1)), zero, zero, zero), false}, {of(2, 0, at(0, f(1)), at(6, inf), zero, zero, zero), false}, {of(2, 1, at(0, f(1)), at(6, inf), zero, zero, zero), true}, {of(2, 1, at(0, nan), at(6, inf), zero, zero, zero), false}, {of(2, 2, at(0, nan), at(6, inf), zero, zero, zero), true}, {of(3, 1, at(0, nan), at(6, inf), zero, zero, zero), false}, {of(3, 3, at(0, nan), at(6, nan), zero, zero, zero), true}, {of(3, 1, at(0, f(1)), at(6, f(1)), zero, zero, zero), true}, {of(3, 4, at(0, f(1)), at(6, f(1)), zero, zero, zero), false},
		{of(3, 1, at(0, f(1)), at(6, f(1)), one, zero, zero), false}, {of(3, 1, at(0, f(1)), at(6, f(1)), zero, one, zero), false}, {of(3, 1, at(0, f(1)), at(6, f(1)), zero, zero, num(-1)), false},
		{of(3, 0, at(0, 0), at(6, 0), mul(num(12), m), mul(num(6), m), mul(num(4), m)), true}, {of(3, 0, at(0, 0), at(6, 0), minus(mul(num(12), m)), minus(mul(num(6), m)), minus(mul(num(4), m))), true}, {of(3, 0, at(0, 0), at(6, 0), add(mul(num(12), m), one), zero, zero), false}, {of(3, 0, at(0, 0), at(6, 0), minus(add(mul(num(12), m), one)), zero, zero), false}, {of(3, 0, at(0, 0), at(6, 0), zero, add(mul(num(6), m), one), zero), false}, {of(3, 0, at(0, 0), at(6, 0), zero, minus(add(mul(num(6), m), one)), zero), false}, {of(3, 0, at(0, 0), at(6, 0), zero, zero, add(mul(num(4), m), one)), false}, {of(3, 0, at(0, 0), at(6, 0), zero, zero, minus(add(mul(num(4), m), one))), false},
		{of(2, 0, at(least, 0), at(most, 0), mul(span, m, num(2)), mul(span, m), zero), true}, {of(2, 0, at(least, 0), at(most, 0), minus(mul(span, m, num(2))), minus(mul(span, m)), zero), true}, {of(2, 0, at(least, 0), at(most, 0), add(mul(span, m, num(2)), one), zero, zero), false}, {of(2, 0, at(least, 0), at(most, 0), zero, two(8*65534), zero), false}, {of(2, 0, at(least, 0), at(most, 0), zero, zero, two(maxBits-1)), false},
		{of(api.MaxCount, 0, at(least, 0), at(most, 0), zero, zero, mul(num(api.MaxCount-1), m, num(2))), true},
	} {
		x, e := exact.PathOf(c.p.form())
		if c.ok != (e == api.OK) || !c.ok && (e != api.ErrExactForm || x != nil) {
			t.Errorf("line %d: %d; want %v", i, e, c.ok)
		}
		if c.ok && e == api.OK {
			c.p.holds(t, "read", x)
		}
	}
	if _, e := exact.PathOf(append(make([]byte, 16), make([]byte, 32)...)); e != api.ErrExactForm {
		t.Errorf("no point, and ends: %d", e)
	}
}
