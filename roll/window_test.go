package roll_test

import (
	"math"
	"math/big"
	"math/rand"
	"testing"

	"fathom/api"
	"fathom/roll"
)

const (
	least    = math.MinInt64
	greatest = math.MaxInt64
)

func is[T comparable](t *testing.T, what string, got, want T) {
	t.Helper()
	if got != want {
		t.Errorf("%s: %v, want %v", what, got, want)
	}
}

func win(step, origin int64) api.Window { return api.Window{Step: step, Origin: origin} }

func span(from, last int64) api.Span { return api.Span{From: from, Last: last} }

// place is a window's, as the chapter says it: exact, with its first and last time, and the first one behind it.
type place struct {
	first, last, next int64
	there             bool
}

func big64(n int64) *big.Int { return big.NewInt(n) }

func cut(n *big.Int) int64 {
	if n.Cmp(big64(least)) < 0 {
		return least
	}
	if n.Cmp(big64(greatest)) > 0 {
		return greatest
	}
	return n.Int64()
}

// placeOf reckons floor((t - Origin) / Step) with whole numbers of any size.
func placeOf(w api.Window, t int64) place {
	n := new(big.Int).Sub(big64(t), big64(w.Origin))
	n.Div(n, big64(w.Step)) // Euclid's: of a step above 0 the floor
	first := n.Mul(n, big64(w.Step))
	first.Add(first, big64(w.Origin))
	next := new(big.Int).Add(first, big64(w.Step))
	last := new(big.Int).Sub(next, big64(1))
	p := place{first: cut(first), last: cut(last)}
	if next.Cmp(big64(greatest)) <= 0 {
		p.next, p.there = next.Int64(), true
	}
	return p
}

func told(t *testing.T, w api.Window, at int64) place {
	t.Helper()
	first, e1 := roll.First(w, at)
	last, e2 := roll.Last(w, at)
	next, there, e3 := roll.Next(w, at)
	if e1 != api.OK || e2 != api.OK || e3 != api.OK {
		t.Errorf("%v, %d: %d, %d, %d", w, at, e1, e2, e3)
	}
	return place{first, last, next, there}
}

func TestExamples(t *testing.T) {
	is(t, "13", told(t, win(10, 0), 13), place{10, 19, 20, true})
	is(t, "-1", told(t, win(10, 0), -1).first, -10)
	is(t, "13 from 3", told(t, win(10, 3), 13).first, 13)
	is(t, "2 from 3", told(t, win(10, 3), 2).first, -7)
	is(t, "the least", told(t, win(10, 0), least), place{least, -9223372036854775801, -9223372036854775800, true})
	is(t, "the greatest", told(t, win(10, 0), greatest), place{9223372036854775800, greatest, 0, false})
	is(t, "one by one", told(t, win(1, least), 77), place{77, 77, 78, true})
	wide := win(greatest, greatest)
	is(t, "0", told(t, wide, 0).first, 0)
	is(t, "-1", told(t, wide, -1).first, -9223372036854775807)
	is(t, "the least", told(t, wide, least).first, least)
	for _, c := range []struct {
		wide api.Window
		fits bool
	}{{win(60, 20), true}, {win(60, 5), false}, {win(25, 0), false}, {win(10, 0), true}, {win(5, 0), false}, {win(20, -30), true}, {win(20, -35), false}} {
		fits, e := roll.Fits(win(10, 0), c.wide)
		is(t, "Fits", fits, c.fits)
		is(t, "Fits", e, api.OK)
	}
	for _, c := range []struct {
		s     api.Span
		whole bool
	}{{span(10, 29), true}, {span(10, 28), false}, {span(11, 29), false}, {span(30, 29), false}, {span(20, 19), false}, {span(least, greatest), true}, {span(least, -1), true}, {span(0, greatest), true}, {span(least+1, -1), false}, {span(0, greatest-1), false}} {
		whole, e := roll.Whole(win(10, 0), c.s)
		is(t, "Whole", whole, c.whole)
		is(t, "Whole", e, api.OK)
	}
}

// edges tells numbers around those where something may wrap, and any others.
func edge(r *rand.Rand) int64 {
	n := []int64{least, greatest, 0, greatest / 2, least / 2, 1 << 32}[r.Intn(6)]
	switch r.Intn(3) {
	case 0:
		return n + int64(r.Intn(7)-3)
	case 1:
		return int64(r.Uint64())
	}
	return int64(r.Intn(100) - 50)
}

func step(r *rand.Rand) int64 {
	n := edge(r)
	if n <= 0 {
		return int64(1 + r.Intn(40))
	}
	return n
}

func TestWindows(t *testing.T) {
	r := rand.New(rand.NewSource(20))
	for range 20000 {
		w, at := win(step(r), edge(r)), edge(r)
		p := placeOf(w, at)
		is(t, "window", told(t, w, at), p)
		if t.Failed() {
			t.Fatalf("%v, %d", w, at)
		}
		is(t, "each of its times", told(t, w, p.first), p)
		is(t, "each of its times", told(t, w, p.last), p)
		if p.there {
			is(t, "the one behind", told(t, w, p.next).first, p.next)
		}
		whole, _ := roll.Whole(w, span(at, p.last))
		is(t, "Whole", whole, at == p.first)
		whole, _ = roll.Whole(w, span(p.first, at))
		is(t, "Whole", whole, at == p.last)
	}
}

func TestFits(t *testing.T) {
	r := rand.New(rand.NewSource(21))
	for range 20000 {
		fine, wide := win(step(r), edge(r)), win(step(r), edge(r))
		if r.Intn(2) == 0 {
			fine.Step = int64(1 + r.Intn(4))
		}
		apart := new(big.Int).Sub(big64(fine.Origin), big64(wide.Origin))
		want := wide.Step%fine.Step == 0 && apart.Mod(apart, big64(fine.Step)).Sign() == 0
		got, e := roll.Fits(fine, wide)
		is(t, "Fits", got, want)
		is(t, "Fits", e, api.OK)
	}
}

// TestSteps: a Step that is not above 0 is refused ahead of all else.
func TestSteps(t *testing.T) {
	falling, bad := []api.Point{{T: 2}, {T: 1}}, []api.Cell{{State: []byte{1}}}
	for _, n := range []int64{0, -1, least} {
		w := win(n, 0)
		first, e := roll.First(w, 5)
		is(t, "First", e, api.ErrRollStep)
		last, e := roll.Last(w, 5)
		is(t, "Last", e, api.ErrRollStep)
		next, there, e := roll.Next(w, 5)
		is(t, "Next", e, api.ErrRollStep)
		is(t, "beside an error", place{first, last, next, there}, place{})
		whole, e := roll.Whole(w, span(0, 9))
		is(t, "Whole", e, api.ErrRollStep)
		for _, pair := range [][2]api.Window{{w, win(10, 0)}, {win(10, 0), w}} {
			fits, e := roll.Fits(pair[0], pair[1])
			is(t, "Fits", e, api.ErrRollStep)
			is(t, "beside an error", whole || fits, false)
			l, e := roll.Wider(pair[0], pair[1], bad)
			is(t, "Wider", e, api.ErrRollStep)
			is(t, "beside an error", len(l), 0)
		}
		_, e = roll.Cells(w, falling)
		is(t, "Cells", e, api.ErrRollStep)
		_, e = roll.Join(w, bad, bad)
		is(t, "Join", e, api.ErrRollStep)
		_, e = roll.Within(w, bad, span(3, 1))
		is(t, "Within", e, api.ErrRollStep)
		_, e = roll.Bytes(w, bad)
		is(t, "Bytes", e, api.ErrRollStep)
	}
}
