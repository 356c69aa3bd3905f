package agg_test

import (
	"bytes"
	"math"
	"math/rand"
	"testing"

	"fathom/agg"
	"fathom/api"
)

func TestExamples(t *testing.T) {
	s := stateOf(t, at(0, 1), api.Point{T: 10, V: api.NaN64}, at(20, 3))
	for kind, v := range map[int]uint64{
		api.AggCount: f(3), api.AggNans: f(1), api.AggSum: api.NaN64, api.AggLeast: f(1), api.AggGreatest: f(3),
		api.AggSpread: f(2), api.AggFirst: f(1), api.AggLast: f(3), api.AggArea: api.NaN64,
	} {
		is(t, "of three", value(s, kind), told{v, true, api.OK})
	}
	s = stateOf(t, api.Point{T: 0, V: minus()}, at(1, 0))
	for kind, v := range map[int]uint64{api.AggLeast: minus(), api.AggGreatest: 0, api.AggSpread: 0, api.AggSum: 0} {
		is(t, "of noughts", value(s, kind), told{v, true, api.OK})
	}
	for _, kind := range []int{0, 17, -1, math.MinInt64, math.MaxInt64} {
		is(t, "no kind", value(s, kind), told{e: api.ErrAggKind})
		is(t, "no kind, no points", value(&agg.State{}, kind), told{e: api.ErrAggKind})
	}
	s = stateOf(t, at(7, 5))
	is(t, "Sample of one", value(s, api.AggSample), told{})
	is(t, "Slope of one", value(s, api.AggSlope), told{})
	s = stateOf(t, at(0, math.Inf(1)), at(1, math.Inf(-1)))
	is(t, "Spread of infinities", value(s, api.AggSpread), told{api.Inf64, true, api.OK})
	is(t, "Sum of infinities", value(s, api.AggSum), told{api.NaN64, true, api.OK})
	s = stateOf(t, api.Point{T: 1, V: 0xfff8000000000009}, api.Point{T: 2, V: api.NaN64 | 3})
	for _, kind := range []int{api.AggLeast, api.AggGreatest, api.AggSpread} {
		is(t, "none counts", value(s, kind), told{api.NaN64, true, api.OK})
	}
	is(t, "the very bits", value(s, api.AggFirst), told{0xfff8000000000009, true, api.OK})
	is(t, "the very bits", value(s, api.AggLast), told{api.NaN64 | 3, true, api.OK})
}

func TestNothing(t *testing.T) {
	for kind := api.AggCount; kind <= api.AggSlope; kind++ {
		is(t, "no point", value(&agg.State{}, kind), told{})
	}
	span, some := (&agg.State{}).Span()
	is(t, "Span of none", span, api.Span{})
	is(t, "Span of none", some, false)
	is(t, "Count of none", (&agg.State{}).Count(), 0)
}

func TestModel(t *testing.T) {
	r := rand.New(rand.NewSource(18))
	for range 400 {
		sort := odd
		if r.Intn(2) == 0 {
			sort = plain
		}
		l := row(r, r.Intn(8), sort)
		s := stateOf(t, l...)
		is(t, "Count", s.Count(), uint64(len(l)))
		if len(l) > 0 {
			span, some := s.Span()
			is(t, "Span", span, api.Span{From: l[0].T, Last: l[len(l)-1].T})
			is(t, "Span", some, true)
		}
		for kind := -1; kind <= 18; kind++ {
			is(t, "Value", value(s, kind), want(l, kind))
		}
	}
}

func TestOrder(t *testing.T) {
	s := stateOf(t, at(math.MinInt64, 1), at(5, 2))
	b := s.Bytes()
	for _, p := range []api.Point{at(5, 1), at(4, 1), at(math.MinInt64, 1)} {
		is(t, "Add", s.Add(p), api.ErrAggOrder)
	}
	for _, o := range []*agg.State{s, stateOf(t, at(5, 1)), stateOf(t, at(-9, 1), at(9, 1))} {
		is(t, "Join", s.Join(o), api.ErrAggOrder)
	}
	is(t, "nothing has changed", string(s.Bytes()), string(b))
	is(t, "Join of none", s.Join(&agg.State{}), api.OK)
	is(t, "Join of nil", s.Join(nil), api.OK)
	is(t, "nothing has changed", string(s.Bytes()), string(b))
	none := &agg.State{}
	is(t, "Join of none with itself", none.Join(none), api.OK)
	is(t, "Join to none", none.Join(s), api.OK)
	is(t, "Join to none", string(none.Bytes()), string(b))
	is(t, "Add at the greatest", s.Add(at(math.MaxInt64, 1)), api.OK)
}

// TestFull: MaxCount is the most; that goes ahead of the order.
func TestFull(t *testing.T) {
	full := readable(t, crowd(api.MaxCount))
	b := full.Bytes()
	is(t, "Count", full.Count(), api.MaxCount)
	is(t, "Add", full.Add(at(math.MaxInt64, 0)), api.ErrAggFull)
	is(t, "Add out of order", full.Add(at(0, 0)), api.ErrAggFull)
	is(t, "Join", full.Join(stateOf(t, at(math.MaxInt64, 0))), api.ErrAggFull)
	is(t, "Join out of order", full.Join(stateOf(t, at(0, 0))), api.ErrAggFull)
	is(t, "Join of none", full.Join(&agg.State{}), api.OK)
	is(t, "nothing has changed", string(full.Bytes()), string(b))
	less := readable(t, crowd(api.MaxCount-1))
	is(t, "Join of two", less.Join(stateOf(t, at(math.MaxInt64-1, 0), at(math.MaxInt64, 0))), api.ErrAggFull)
	is(t, "Join out of order", less.Join(stateOf(t, at(0, 0))), api.ErrAggOrder)
	is(t, "Join of one", less.Join(stateOf(t, at(math.MaxInt64, 0))), api.OK)
	is(t, "Add", less.Add(at(math.MaxInt64, 0)), api.ErrAggFull)
	is(t, "how many", value(less, api.AggCount), told{f(api.MaxCount), true, api.OK})
}

// TestGroups: states of pieces, joined in whatever grouping, are one; a Bag tells the loose kinds alike in any order.
func TestGroups(t *testing.T) {
	r := rand.New(rand.NewSource(1805))
	for range 200 {
		l := row(r, 1+r.Intn(12), odd)
		whole := stateOf(t, l...)
		is(t, "joined", string(grouped(t, r, l).Bytes()), string(whole.Bytes()))
		g := &agg.Bag{}
		for _, i := range r.Perm(len(l)) {
			is(t, "Merge", g.Merge(bagOf(t, l[i].V)), api.OK)
		}
		is(t, "Count", g.Count(), uint64(len(l)))
		for kind := -1; kind <= 18; kind++ {
			if agg.Loose(kind) {
				is(t, "of a bag", value(g, kind), value(whole, kind))
			}
		}
	}
}

// grouped tells the state of points, joined of those of two pieces, and so on.
func grouped(t *testing.T, r *rand.Rand, l []api.Point) *agg.State {
	if len(l) < 2 {
		return stateOf(t, l...)
	}
	cut := r.Intn(len(l) + 1)
	if cut == 0 || cut == len(l) {
		return stateOf(t, l...)
	}
	a, b := grouped(t, r, l[:cut]), grouped(t, r, l[cut:])
	stays := b.Bytes()
	is(t, "Join", a.Join(b), api.OK)
	is(t, "the other one stays", string(b.Bytes()), string(stays))
	return a
}

// TestBounds: what follows of the values.
func TestBounds(t *testing.T) {
	r := rand.New(rand.NewSource(77))
	for range 300 {
		s := stateOf(t, row(r, 1+r.Intn(9), plain)...)
		least, mean, greatest := value(s, api.AggLeast).v, value(s, api.AggMean).v, value(s, api.AggGreatest).v
		if place(least) > place(greatest) || math.Float64frombits(mean) < math.Float64frombits(least) || math.Float64frombits(mean) > math.Float64frombits(greatest) {
			t.Errorf("mean %x of %x to %x", mean, least, greatest)
		}
		if spread := value(s, api.AggSpread).v; int64(spread) < 0 {
			t.Errorf("spread %x", spread)
		}
	}
}

// TestApart: objects have nothing in common; what was told is the caller's.
func TestApart(t *testing.T) {
	s, o := stateOf(t, at(1, 2)), stateOf(t, at(5, 7))
	is(t, "Join", s.Join(o), api.OK)
	b := s.Bytes()
	was := bytes.Clone(b)
	is(t, "Add", o.Add(at(9, 100)), api.OK)
	is(t, "the joined one", string(s.Bytes()), string(was))
	read := readable(t, b)
	clear(b)
	is(t, "the one that was read", string(read.Bytes()), string(was))
	is(t, "the one that told", string(s.Bytes()), string(was))
	c := append(s.Bytes(), 1)
	is(t, "appended", string(s.Bytes()), string(was))
	is(t, "appended", len(c), len(was)+1)
	is(t, "Add", read.Add(at(50, 1)), api.OK)
	is(t, "the one that was told", string(s.Bytes()), string(was))
}
