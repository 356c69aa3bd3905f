package agg_test

import (
	"math"
	"math/rand"
	"testing"

	"fathom/agg"
	"fathom/api"
	"fathom/exact"
	"fathom/float"
)

func f(x float64) uint64 { return math.Float64bits(x) }

func at(t int64, x float64) api.Point { return api.Point{T: t, V: f(x)} }

func minus() uint64 { return api.Neg64 }

func is[T comparable](t *testing.T, what string, got, want T) {
	t.Helper()
	if got != want {
		t.Errorf("%s: %v, want %v", what, got, want)
	}
}

// stateOf tells the state of points that may be added.
func stateOf(t *testing.T, l ...api.Point) *agg.State {
	t.Helper()
	s := &agg.State{}
	for _, p := range l {
		is(t, "Add", s.Add(p), api.OK)
	}
	return s
}

func bagOf(t *testing.T, l ...uint64) *agg.Bag {
	t.Helper()
	g := &agg.Bag{}
	for _, v := range l {
		is(t, "Bag.Add", g.Add(v), api.OK)
	}
	return g
}

// told is an answer of Value.
type told struct {
	v    uint64
	some bool
	e    api.Errno
}

// valued is what has aggregates: a State, a Bag.
type valued interface {
	Value(kind int) (uint64, bool, api.Errno)
}

func value(s valued, kind int) told {
	v, some, e := s.Value(kind)
	return told{v, some, e}
}

func nan(v uint64) bool { return math.IsNaN(math.Float64frombits(v)) }

// place tells where a pattern stands in the order of all patterns.
func place(v uint64) int64 {
	if int64(v) < 0 {
		return math.MinInt64 + int64(^v)
	}
	return int64(v)
}

// ends tells the least and the greatest of the values that count, as the chapter says them.
func ends(l []api.Point) (least, greatest uint64) {
	least, greatest = api.NaN64, api.NaN64
	for _, p := range l {
		if nan(p.V) {
			continue
		}
		if nan(least) || place(p.V) < place(least) {
			least = p.V
		}
		if nan(greatest) || place(p.V) > place(greatest) {
			greatest = p.V
		}
	}
	return least, greatest
}

// fromValues tells what the chapter says of the kinds that exact's Moments know.
func fromValues(l []api.Point, kind int) (uint64, bool) {
	m := &exact.Moments{}
	for _, p := range l {
		m.Add(p.V)
	}
	switch kind {
	case api.AggSum:
		return m.Sum()
	case api.AggMean:
		return m.Mean()
	case api.AggVar:
		return m.Var()
	case api.AggSample:
		return m.Sample()
	}
	return m.Dev()
}

func fromTimes(l []api.Point, kind int) (uint64, bool) {
	path, line := &exact.Path{}, &exact.Line{}
	for _, p := range l {
		path.Add(p)
		line.Add(p)
	}
	switch kind {
	case api.AggArea:
		return path.Area()
	case api.AggStep:
		return path.Step()
	case api.AggRise:
		return path.Rise()
	}
	return line.Slope()
}

// want tells an aggregate of points as the chapter says it.
func want(l []api.Point, kind int) told {
	if kind < api.AggCount || kind > api.AggSlope {
		return told{e: api.ErrAggKind}
	}
	if len(l) == 0 {
		return told{}
	}
	least, greatest := ends(l)
	v, some := uint64(0), true
	switch kind {
	case api.AggCount:
		v = f(float64(len(l)))
	case api.AggNans:
		n := 0.0
		for _, p := range l {
			if nan(p.V) {
				n++
			}
		}
		v = f(n)
	case api.AggLeast:
		v = least
	case api.AggGreatest:
		v = greatest
	case api.AggSpread:
		v = float.Sub(greatest, least)
	case api.AggFirst:
		v = l[0].V
	case api.AggLast:
		v = l[len(l)-1].V
	case api.AggArea, api.AggStep, api.AggRise, api.AggSlope:
		v, some = fromTimes(l, kind)
	default:
		v, some = fromValues(l, kind)
	}
	return told{v: v, some: some}
}

// odd tells a value of any sort.
func odd(r *rand.Rand) uint64 {
	switch r.Intn(12) {
	case 0:
		return api.NaN64
	case 1:
		return 0xfff0000000000001
	case 2:
		return api.Inf64
	case 3:
		return api.Inf64 | api.Neg64
	case 4:
		return 0
	case 5:
		return minus()
	case 6:
		return r.Uint64()
	}
	return f(float64(r.Intn(2000)-1000) / 8)
}

// plain tells a finite value.
func plain(r *rand.Rand) uint64 { return f(float64(r.Intn(2000)-1000) / 8) }

// row tells points whose times rise.
func row(r *rand.Rand, n int, value func(r *rand.Rand) uint64) []api.Point {
	var l []api.Point
	t := int64(r.Intn(100) - 50)
	for range n {
		l = append(l, api.Point{T: t, V: value(r)})
		t += 1 + int64(r.Intn(20))
	}
	return l
}
