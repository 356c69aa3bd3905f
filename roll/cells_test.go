package roll_test

import (
	"bytes"
	"math"
	"math/rand"
	"slices"
	"testing"

	"fathom/agg"
	"fathom/api"
	"fathom/roll"
)

func f(x float64) uint64 { return math.Float64bits(x) }

func at(t int64, x float64) api.Point { return api.Point{T: t, V: f(x)} }

// state tells the bytes of points' state.
func state(t *testing.T, l ...api.Point) []byte {
	t.Helper()
	s := &agg.State{}
	for _, p := range l {
		is(t, "Add", s.Add(p), api.OK)
	}
	return s.Bytes()
}

// wantCells tells the cells of points, as the chapter says them.
func wantCells(t *testing.T, w api.Window, l []api.Point) []api.Cell {
	t.Helper()
	var cells []api.Cell
	for len(l) > 0 {
		name := placeOf(w, l[0].T).first
		n := 1
		for n < len(l) && placeOf(w, l[n].T).first == name {
			n++
		}
		cells = append(cells, api.Cell{First: name, State: state(t, l[:n]...)})
		l = l[n:]
	}
	return cells
}

func alike(a, b []api.Cell) bool {
	return slices.EqualFunc(a, b, func(x, y api.Cell) bool { return x.First == y.First && bytes.Equal(x.State, y.State) })
}

func same(t *testing.T, what string, got, want []api.Cell) {
	t.Helper()
	if !alike(got, want) {
		t.Fatalf("%s: %.300v, want %.300v", what, got, want)
	}
}

// cells, joined, wider, inside: what may not refuse.
func cells(t *testing.T, w api.Window, l []api.Point) []api.Cell {
	t.Helper()
	c, e := roll.Cells(w, l)
	is(t, "Cells", e, api.OK)
	return c
}

func joined(t *testing.T, w api.Window, a, b []api.Cell) []api.Cell {
	t.Helper()
	c, e := roll.Join(w, a, b)
	is(t, "Join", e, api.OK)
	return c
}

func wider(t *testing.T, fine, wide api.Window, l []api.Cell) []api.Cell {
	t.Helper()
	c, e := roll.Wider(fine, wide, l)
	is(t, "Wider", e, api.OK)
	return c
}

func inside(t *testing.T, w api.Window, l []api.Cell, s api.Span) []api.Cell {
	t.Helper()
	c, e := roll.Within(w, l, s)
	is(t, "Within", e, api.OK)
	return c
}

func refused(t *testing.T, what string, l []api.Cell, got, want api.Errno) {
	t.Helper()
	if got != want || len(l) > 0 {
		t.Errorf("%s: %v, %d, want %d", what, l, got, want)
	}
}

// row tells points whose times rise; some are at the ends of all times.
func row(r *rand.Rand, n int) []api.Point {
	var l []api.Point
	times := map[int64]int{}
	for range n {
		at := int64(r.Intn(200) - 100)
		if r.Intn(6) == 0 {
			at = edge(r)
		}
		times[at]++
	}
	for at := range times {
		l = append(l, api.Point{T: at})
	}
	slices.SortFunc(l, func(a, b api.Point) int {
		if a.T < b.T {
			return -1
		}
		return 1
	})
	for i := range l {
		l[i].V = f(float64(r.Intn(100)) / 4)
		if r.Intn(5) == 0 {
			l[i].V = r.Uint64()
		}
	}
	return l
}

func TestCellsExample(t *testing.T) {
	c := cells(t, win(10, 0), []api.Point{at(1, 5), at(9, 6), at(25, 7)})
	is(t, "two", len(c), 2)
	is(t, "the first", c[0].First, 0)
	is(t, "the second", c[1].First, 20)
	l, e := roll.Values(c, api.AggCount)
	is(t, "Values", e, api.OK)
	if !slices.Equal(l, []api.Point{at(0, 2), at(20, 1)}) {
		t.Error(l)
	}
	is(t, "one", len(wider(t, win(10, 0), win(40, 0), c)), 1)
	is(t, "of none", len(cells(t, win(10, 0), nil)), 0)
}

func TestModel(t *testing.T) {
	r := rand.New(rand.NewSource(203))
	for range 300 {
		w := win(int64(1+r.Intn(30)), int64(r.Intn(40)-20))
		if r.Intn(5) == 0 {
			w = win(step(r), edge(r))
		}
		l := row(r, r.Intn(12))
		all := cells(t, w, l)
		same(t, "Cells", all, wantCells(t, w, l))
		cutAnywhere(t, r, w, l, all)
		widened(t, r, w, l, all)
		valued(t, w, l, all)
		b, e := roll.Bytes(w, all)
		is(t, "Bytes", e, api.OK)
		v, again, e := roll.Of(b)
		is(t, "Of", e, api.OK)
		is(t, "Of", v, w)
		same(t, "Of", again, all)
	}
}

// cutAnywhere: cells of pieces, joined in whatever grouping, are those of all.
func cutAnywhere(t *testing.T, r *rand.Rand, w api.Window, l []api.Point, all []api.Cell) {
	t.Helper()
	i := r.Intn(len(l) + 1)
	j := i + r.Intn(len(l)-i+1)
	a, b, c := cells(t, w, l[:i]), cells(t, w, l[i:j]), cells(t, w, l[j:])
	same(t, "joined from the left", joined(t, w, joined(t, w, a, b), c), all)
	same(t, "joined from the right", joined(t, w, a, joined(t, w, b, c)), all)
}

// widened: cells of wider windows, and of whole ones, from cells as from points.
func widened(t *testing.T, r *rand.Rand, w api.Window, l []api.Point, all []api.Cell) {
	t.Helper()
	times := int64(1 + r.Intn(5))
	if w.Step <= greatest/times {
		wide := win(w.Step*times, w.Origin)
		if n := w.Step * int64(r.Intn(9)-4); n/4 < 1<<40 && n/4 > -1<<40 && w.Origin/4 < 1<<40 && w.Origin/4 > -1<<40 {
			wide.Origin += n
		}
		same(t, "Wider", wider(t, w, wide, all), wantCells(t, wide, l))
	}
	s := span(placeOf(w, edge(r)).first, placeOf(w, edge(r)).last)
	if s.From > s.Last {
		return
	}
	var some []api.Point
	for _, p := range l {
		if s.From <= p.T && p.T <= s.Last {
			some = append(some, p)
		}
	}
	same(t, "Within", inside(t, w, all, s), wantCells(t, w, some))
}

// valued: Values are what agg tells of each window's points.
func valued(t *testing.T, w api.Window, l []api.Point, all []api.Cell) {
	t.Helper()
	for kind := api.AggCount; kind <= api.AggSlope; kind++ {
		var want []api.Point
		for _, c := range all {
			s := &agg.State{}
			for _, p := range l {
				if placeOf(w, p.T).first == c.First {
					s.Add(p)
				}
			}
			if v, some, _ := s.Value(kind); some {
				want = append(want, api.Point{T: c.First, V: v})
			}
		}
		got, e := roll.Values(all, kind)
		if e != api.OK || !slices.Equal(got, want) {
			t.Fatalf("Values of %d: %v, %d, want %v", kind, got, e, want)
		}
	}
}

func TestTimes(t *testing.T) {
	for _, l := range [][]api.Point{{at(2, 0), at(1, 0)}, {at(1, 0), at(1, 0)}, {at(1, 0), at(5, 0), at(4, 0)}, {at(greatest, 0), at(least, 0)}} {
		c, e := roll.Cells(win(10, 0), l)
		refused(t, "Cells", c, e, api.ErrRollTimes)
	}
}

// TestMany: MaxCells, and no more; times that do not rise are told ahead of that.
func TestMany(t *testing.T) {
	l := make([]api.Point, api.MaxCells+1)
	for i := range l {
		l[i] = api.Point{T: int64(i), V: f(1)}
	}
	w := win(1, 0)
	c, e := roll.Cells(w, l)
	refused(t, "Cells", c, e, api.ErrRollCells)
	l[len(l)-1].T = 0
	c, e = roll.Cells(w, l)
	refused(t, "Cells", c, e, api.ErrRollTimes)
	l[len(l)-1].T = api.MaxCells
	is(t, "two a window", len(cells(t, win(2, 0), l)), api.MaxCells/2+1)
	all := cells(t, w, l[:api.MaxCells])
	is(t, "Cells", len(all), api.MaxCells)
	one := cells(t, w, l[api.MaxCells:])
	c, e = roll.Join(w, all, one)
	refused(t, "Join", c, e, api.ErrRollCells)
	is(t, "Join", len(joined(t, w, all[1:], one)), api.MaxCells)
	c, e = roll.Join(w, append(all, one...), nil)
	refused(t, "Join of too many", c, e, api.ErrRollCells)
	c, e = roll.Within(w, append(all, one...), span(least, greatest))
	refused(t, "Within of too many", c, e, api.ErrRollCells)
	c, e = roll.Wider(w, w, append(all, one...))
	refused(t, "Wider of too many", c, e, api.ErrRollCells)
}

// bad tells cells that may not be, of windows {10, 0}.
func bad(t *testing.T) map[string][]api.Cell {
	good := cells(t, win(10, 0), []api.Point{at(1, 5), at(12, 6)})
	a, b := good[0], good[1]
	big := append(bytes.Clone(a.State), make([]byte, api.MaxState)...)
	return map[string][]api.Cell{
		"falling": {b, a}, "twice": {a, a}, "no name": {{First: 1, State: a.State}}, "another window's name": {{First: 10, State: a.State}},
		"no state": {{First: 0}}, "no state's bytes": {{First: 0, State: []byte{1, 2}}}, "no points": {{First: 0, State: (&agg.State{}).Bytes()}},
		"points ahead": {{First: 0, State: state(t, at(-1, 0), at(3, 0))}}, "points behind": {{First: 0, State: state(t, at(0, 0), at(10, 0))}},
		"long": {{First: 0, State: big}}, "the second": {a, {First: 10, State: a.State}}, "below the least": {{First: least + 1, State: state(t, at(least+1, 0))}},
	}
}

func TestMayBe(t *testing.T) {
	w := win(10, 0)
	good := cells(t, w, []api.Point{at(-5, 1), at(33, 2)})
	for what, l := range bad(t) {
		c, e := roll.Join(w, l, nil)
		refused(t, "Join, "+what, c, e, api.ErrRollCells)
		c, e = roll.Join(w, nil, l)
		refused(t, "Join, "+what, c, e, api.ErrRollCells)
		c, e = roll.Wider(w, win(20, 0), l)
		refused(t, "Wider, "+what, c, e, api.ErrRollCells)
		c, e = roll.Wider(w, win(25, 0), l)
		refused(t, "Wider, "+what, c, e, api.ErrRollFit)
		c, e = roll.Within(w, l, span(least, greatest))
		refused(t, "Within, "+what, c, e, api.ErrRollCells)
		c, e = roll.Within(w, l, span(1, 9))
		refused(t, "Within, "+what, c, e, api.ErrRollFit)
		b, e := roll.Bytes(w, l)
		is(t, "Bytes, "+what, e, api.ErrRollCells)
		is(t, "Bytes, "+what, len(b), 0)
	}
	c, e := roll.Join(w, good[1:], good[:1])
	refused(t, "Join backwards", c, e, api.ErrRollCells)
	c, e = roll.Join(w, good, good[1:])
	refused(t, "Join of the same", c, e, api.ErrAggOrder)
	c, e = roll.Wider(w, win(20, 0), good)
	is(t, "Wider", e, api.OK)
	same(t, "Wider", c, wantCells(t, win(20, 0), []api.Point{at(-5, 1), at(33, 2)}))
	edges := []api.Point{at(least, 1), at(least+6, 2), at(greatest, 3)}
	all := cells(t, w, edges)
	is(t, "named by the least", all[0].First, least)
	same(t, "all times", inside(t, w, all, span(least, greatest)), all)
	same(t, "Wider of the ends", wider(t, w, win(30, 0), all), wantCells(t, win(30, 0), edges))
}

func TestValues(t *testing.T) {
	good := cells(t, win(10, 0), []api.Point{at(-5, 1), at(33, 2)})
	broken := append(slices.Clone(good), api.Cell{First: 99, State: []byte{1}})
	for _, kind := range []int{api.AggSum, 0, 17} {
		l, e := roll.Values(broken, kind)
		is(t, "a state that is none", e, api.ErrAggForm)
		is(t, "beside an error", len(l), 0)
	}
	for _, kind := range []int{0, -1, 17} {
		l, e := roll.Values(good, kind)
		is(t, "no kind", e, api.ErrAggKind)
		is(t, "beside an error", len(l), 0)
		l, e = roll.Values(nil, kind)
		is(t, "of no cells", e, api.OK)
		is(t, "of no cells", len(l), 0)
	}
	l, e := roll.Values(good, api.AggSample)
	is(t, "Sample of one each", len(l), 0)
	is(t, "Sample of one each", e, api.OK)
	none := (&agg.State{}).Bytes()
	l, e = roll.Values([]api.Cell{{First: 7, State: state(t, at(90, 4))}, {First: 7, State: none}, {First: 3, State: state(t, at(1, 2))}}, api.AggLast)
	is(t, "nothing else is asked", e, api.OK)
	if !slices.Equal(l, []api.Point{at(7, 4), at(3, 2)}) {
		t.Error(l)
	}
}
