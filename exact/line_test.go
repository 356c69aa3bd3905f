package exact_test

import (
	"math"
	"math/big"
	"math/rand"
	"slices"
	"testing"

	"fathom/api"
	"fathom/exact"
)

// line is the model of a Line.
type line struct {
	n, odd       uint64
	t, tt, v, tv *big.Int // v, tv times 2^1074
}

func lineOf(l []api.Point) line {
	x := line{t: num(0), tt: num(0), v: num(0), tv: num(0)}
	for _, p := range l {
		x.n++
		if !isFinite(p.V) {
			x.odd++
			continue
		}
		t, v := num(p.T), units(p.V)
		x.t, x.tt, x.v, x.tv = add(x.t, t), add(x.tt, mul(t, t)), add(x.v, v), add(x.tv, mul(t, v))
	}
	return x
}

func (l line) times(k uint64) line {
	by := new(big.Int).SetUint64(k)
	return line{n: l.n * k, odd: l.odd * k, t: mul(l.t, by), tt: mul(l.tt, by), v: mul(l.v, by), tv: mul(l.tv, by)}
}

func (l line) form() []byte {
	return slices.Concat(numForm(l.n, 8), numForm(l.odd, 8), numberForm(l.t), sizeForm(l.tt), numberForm(l.v), numberForm(l.tv))
}

// values tells Slope, and At of a time.
func (l line) values(at int64) (slope, there told) {
	if l.n < 2 {
		return told{}, told{}
	}
	n := new(big.Int).SetUint64(l.n)
	run := sub(mul(n, l.tt), mul(l.t, l.t))
	if l.odd > 0 || run.Sign() == 0 {
		return told{api.NaN64, true}, told{api.NaN64, true}
	}
	k := ratio(sub(mul(n, l.tv), mul(l.t, l.v)), run, -1074)
	// The line goes through the mean of times and values.
	d := new(big.Rat).Sub(ratio(num(at), num(1), 0), ratio(l.t, n, 0))
	y := new(big.Rat).Add(ratio(l.v, n, -1074), d.Mul(d, k))
	return told{nearest(k), true}, told{nearest(y), true}
}

func (l line) holds(t *testing.T, what string, x *exact.Line) {
	t.Helper()
	same(t, what+": Count", x.Count(), l.n)
	for _, at := range []int64{0, 1, -7, math.MinInt64, math.MaxInt64} {
		slope, there := l.values(at)
		same(t, what+": Slope", tell(x.Slope()), slope)
		same(t, what+": At", tell(x.At(at)), there)
	}
	if b := x.Bytes(); !slices.Equal(b, l.form()) {
		t.Fatalf("%s: Bytes: %x; want %x", what, b, l.form())
	}
}

func lined(t *testing.T, l []api.Point) *exact.Line {
	t.Helper()
	x := &exact.Line{}
	for _, p := range l {
		same(t, "Add", x.Add(p), api.OK)
	}
	return x
}

// somePoints tells points at any times, some of them at one.
func somePoints(r *rand.Rand, n int) []api.Point {
	l := []api.Point{}
	one := r.Intn(6) == 0
	for i, v := range someValues(r, n) {
		p := api.Point{T: anyTime(r), V: v}
		if one && i > 0 {
			p.T = l[0].T
		}
		l = append(l, p)
	}
	return l
}

// P4.7, P4.8, P4.12: any points tell what the chapter says, in any order and grouping.
func TestLine(t *testing.T) {
	r := rand.New(rand.NewSource(50))
	for i := range 3000 {
		l := somePoints(r, i%8)
		model := lineOf(l)
		model.holds(t, "added", lined(t, l))
		model.holds(t, "merged", merged(t, r, l, lined))
		x, e := exact.LineOf(model.form())
		same(t, "LineOf", e, api.OK)
		model.holds(t, "read", x)
	}
}

// P4.7: the chapter's example, and its special cases.
func TestLineExamples(t *testing.T) {
	x := lined(t, []api.Point{{T: 0, V: 0}, {T: 1, V: f(1)}, {T: 2, V: f(4)}})
	same(t, "Slope", tell(x.Slope()), told{f(2), true})
	same(t, "At(0)", tell(x.At(0)), told{0xbfd5555555555555, true})
	one := lined(t, []api.Point{{T: 4, V: f(1)}})
	same(t, "Slope of one", tell(one.Slope()), told{})
	same(t, "At of one", tell(one.At(4)), told{})
	one.Add(api.Point{T: 4, V: f(2)})
	same(t, "Slope at one time", tell(one.Slope()), told{api.NaN64, true})
	same(t, "At at one time", tell(one.At(4)), told{api.NaN64, true})
	one.Add(api.Point{T: 5, V: api.Inf64})
	same(t, "Count", one.Count(), 3)
	same(t, "Slope with an infinity", tell(one.Slope()), told{api.NaN64, true})
	flat := lined(t, []api.Point{{T: -1, V: api.Neg64}, {T: 3, V: api.Neg64}})
	same(t, "Slope of -0", tell(flat.Slope()), told{0, true})
	same(t, "At of -0", tell(flat.At(1)), told{0, true})
	odd := lined(t, []api.Point{{T: 1, V: api.NaN64}})
	same(t, "Slope of one NaN", tell(odd.Slope()), told{})
	odd.Add(api.Point{T: 2, V: f(1)})
	same(t, "Slope with a NaN", tell(odd.Slope()), told{api.NaN64, true})
}

// P4.7: MaxCount points at most; with an error nothing has changed.
func TestLineFull(t *testing.T) {
	for _, l := range [][]api.Point{{{T: math.MinInt64, V: api.Inf64 - 1}}, {{T: math.MaxInt64, V: api.Neg64 | api.Inf64 - 1}}, {{T: math.MinInt64, V: f(-1)}, {T: 7, V: f(2)}}, {{T: 3, V: api.NaN64}}} {
		filled[*exact.Line]{lined(t, l), exact.LineOf, func(x *exact.Line) api.Errno { return x.Add(api.Point{T: 1, V: f(7)}) }, func(what string, x *exact.Line, times uint64) {
			t.Helper()
			lineOf(l).times(times).holds(t, what, x)
		}}.fills(t, &exact.Line{})
	}
}

// P4.8: what is no state's form, and what is just one.
func TestLineOf(t *testing.T) {
	m, zero, one := greatest(), num(0), num(1)
	max2 := new(big.Int).SetUint64(api.MaxCount)
	minus := func(x *big.Int) *big.Int { return new(big.Int).Neg(x) }
	for i, c := range []struct {
		l  line
		ok bool
	}{
		{line{t: zero, tt: zero, v: zero, tv: zero}, true},
		{line{n: api.MaxCount, t: zero, tt: zero, v: zero, tv: zero}, true}, {line{n: api.MaxCount + 1, t: zero, tt: zero, v: zero, tv: zero}, false}, {line{n: math.MaxUint64, t: zero, tt: zero, v: zero, tv: zero}, false},
		{line{n: 2, odd: 2, t: zero, tt: zero, v: zero, tv: zero}, true}, {line{n: 2, odd: 3, t: zero, tt: zero, v: zero, tv: zero}, false}, {line{odd: 1, t: zero, tt: zero, v: zero, tv: zero}, false},
		{line{n: 1, t: two(63), tt: two(126), v: zero, tv: zero}, true}, {line{n: 1, t: minus(two(63)), tt: two(126), v: zero, tv: zero}, true}, {line{n: 1, t: add(two(63), one), tt: two(126), v: zero, tv: zero}, false}, {line{n: 1, t: zero, tt: add(two(126), one), v: zero, tv: zero}, false}, {line{n: 1, t: minus(two(63)), tt: sub(two(126), one), v: zero, tv: zero}, false},
		{line{n: 2, t: num(-4), tt: num(8), v: zero, tv: zero}, true}, {line{n: 2, t: num(-4), tt: num(7), v: zero, tv: zero}, false}, {line{n: 2, odd: 1, t: num(4), tt: num(8), v: zero, tv: zero}, false}, {line{n: 2, t: zero, tt: num(1), v: zero, tv: zero}, true},
		{line{n: 1, t: zero, tt: zero, v: m, tv: zero}, true}, {line{n: 1, t: zero, tt: zero, v: minus(m), tv: zero}, true}, {line{n: 1, t: zero, tt: zero, v: add(m, one), tv: zero}, false}, {line{n: 1, t: zero, tt: zero, v: minus(add(m, one)), tv: zero}, false}, {line{n: 3, odd: 2, t: zero, tt: zero, v: add(m, one), tv: zero}, false},
		{line{n: 1, t: zero, tt: zero, v: zero, tv: mul(m, two(63))}, true}, {line{n: 1, t: zero, tt: zero, v: zero, tv: minus(mul(m, two(63)))}, true}, {line{n: 1, t: zero, tt: zero, v: zero, tv: add(mul(m, two(63)), one)}, false}, {line{n: 3, odd: 2, t: zero, tt: zero, v: zero, tv: minus(add(mul(m, two(63)), one))}, false},
		{line{t: one, tt: zero, v: zero, tv: zero}, false}, {line{t: zero, tt: one, v: zero, tv: zero}, false}, {line{t: zero, tt: zero, v: one, tv: zero}, false}, {line{t: zero, tt: zero, v: zero, tv: one}, false}, {line{n: 1, odd: 1, t: zero, tt: zero, v: zero, tv: one}, false},
		{line{n: api.MaxCount, t: mul(max2, two(63)), tt: mul(max2, two(126)), v: mul(max2, m), tv: mul(max2, m, two(63))}, true}, {line{n: api.MaxCount, t: minus(mul(max2, two(63))), tt: mul(max2, two(126)), v: minus(mul(max2, m)), tv: minus(mul(max2, m, two(63)))}, true},
		{line{n: api.MaxCount, t: two(maxBits - 1), tt: two(maxBits - 1), v: zero, tv: zero}, false}, {line{n: api.MaxCount, t: zero, tt: two(8 * 65534), v: zero, tv: zero}, false}, {line{n: 1, t: zero, tt: zero, v: two(8 * 65534), tv: zero}, false},
	} {
		x, e := exact.LineOf(c.l.form())
		if c.ok != (e == api.OK) || !c.ok && (e != api.ErrExactForm || x != nil) {
			t.Errorf("line %d: %d; want %v", i, e, c.ok)
		}
		if c.ok && e == api.OK {
			c.l.holds(t, "read", x)
		}
	}
}
