package agg

import (
	"fathom/api"
	"fathom/exact"
)

// Bag is that of values in no order.
type Bag struct {
	moments exact.Moments
	reach   reach
}

// Add takes a value; Merge another one's values, or its own once more.
func (g *Bag) Add(v uint64) api.Errno {
	if g.moments.Add(v) != api.OK {
		return api.ErrAggFull
	}
	g.reach.take(v)
	return api.OK
}
func (g *Bag) Merge(o *Bag) api.Errno {
	if o == nil {
		return api.OK
	}
	if g.moments.Merge(&o.moments) != api.OK {
		return api.ErrAggFull
	}
	g.reach.join(o.reach)
	return api.OK
}

// Count tells how many values; Value an aggregate of them.
func (g *Bag) Count() uint64 { return g.moments.Count() }
func (g *Bag) Value(kind int) (uint64, bool, api.Errno) {
	switch kind {
	case api.AggLeast, api.AggGreatest, api.AggSpread:
		if g.Count() > 0 && !g.reach.some {
			return api.NaN64, true, api.OK
		}
		fallthrough
	case api.AggCount, api.AggNans, api.AggSum, api.AggMean, api.AggVar, api.AggSample, api.AggDev:
		if g.Count() == 0 {
			return 0, false, api.OK
		}
		v, ok := looseWayOf(kind)(g)
		return v, ok, api.OK
	}
	return 0, false, api.ErrAggKind
}

// Loose tells whether an aggregate hangs on values alone: Bag has it.
func Loose(kind int) bool { return kind >= api.AggCount && kind <= api.AggSpread }
