package agg_test

import (
	"math"
	"math/rand"
	"testing"

	"fathom/agg"
	"fathom/api"
)

func TestLoose(t *testing.T) {
	for kind := -3; kind < 40; kind++ {
		is(t, "Loose", agg.Loose(kind), kind >= 1 && kind <= 10)
	}
	is(t, "Loose(AggSpread)", agg.Loose(api.AggSpread), true)
	is(t, "Loose(AggFirst)", agg.Loose(api.AggFirst), false)
	is(t, "Loose", agg.Loose(math.MinInt64) || agg.Loose(math.MaxInt64), false)
}

func TestBagKinds(t *testing.T) {
	for _, g := range []*agg.Bag{{}, bagOf(t, f(1))} {
		for _, kind := range []int{0, -1, api.AggFirst, api.AggLast, api.AggArea, api.AggStep, api.AggRise, api.AggSlope, 17, math.MaxInt64} {
			is(t, "no loose kind", value(g, kind), told{e: api.ErrAggKind})
		}
	}
	for kind := api.AggCount; kind <= api.AggSpread; kind++ {
		is(t, "of none", value(&agg.Bag{}, kind), told{})
	}
}

func TestBagModel(t *testing.T) {
	r := rand.New(rand.NewSource(184))
	for range 300 {
		l := row(r, r.Intn(9), odd)
		g := &agg.Bag{}
		for _, p := range l {
			is(t, "Add", g.Add(p.V), api.OK)
		}
		for kind := api.AggCount; kind <= api.AggSpread; kind++ {
			is(t, "Value", value(g, kind), want(l, kind))
		}
	}
}

// TestBagFull: doubled by Merges with itself, a bag takes MaxCount values and no more.
func TestBagFull(t *testing.T) {
	g := bagOf(t, f(3))
	for g.Count() < api.MaxCount/2 {
		is(t, "Merge with itself", g.Merge(g), api.OK)
	}
	is(t, "Sum", value(g, api.AggSum), told{f(3 * api.MaxCount / 2), true, api.OK})
	half := &agg.Bag{}
	is(t, "Merge", half.Merge(g), api.OK)
	is(t, "Add", half.Add(f(9)), api.OK)
	is(t, "too many", g.Merge(half), api.ErrAggFull)
	is(t, "Count", g.Count(), api.MaxCount/2)
	is(t, "Merge with itself", g.Merge(g), api.OK)
	is(t, "Count", g.Count(), api.MaxCount)
	is(t, "Add", g.Add(f(9)), api.ErrAggFull)
	is(t, "Merge", g.Merge(bagOf(t, f(9))), api.ErrAggFull)
	is(t, "Merge with itself", g.Merge(g), api.ErrAggFull)
	is(t, "Merge of none", g.Merge(&agg.Bag{}), api.OK)
	is(t, "Merge of nil", g.Merge(nil), api.OK)
	is(t, "Greatest stays", value(g, api.AggGreatest), told{f(3), true, api.OK})
	is(t, "Count stays", value(g, api.AggCount), told{f(api.MaxCount), true, api.OK})
}

// TestBagsApart: a Merge changes the one alone, and they go on by themselves.
func TestBagsApart(t *testing.T) {
	a, b := bagOf(t, f(1)), bagOf(t, f(2), api.NaN64)
	is(t, "Merge", a.Merge(b), api.OK)
	is(t, "the other one stays", b.Count(), 2)
	is(t, "Add", b.Add(f(50)), api.OK)
	is(t, "Greatest", value(a, api.AggGreatest), told{f(2), true, api.OK})
	is(t, "Nans", value(a, api.AggNans), told{f(1), true, api.OK})
	is(t, "Count", a.Count(), 3)
}
