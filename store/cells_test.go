package store_test

import (
	"testing"

	"fathom/agg"
	"fathom/api"
	"fathom/roll"
)

// hasCells fails unless a question is answered by cells just as said; if so by those of the points, and no block is decoded.
func (p *pair) hasCells(t *testing.T, what string, w api.Window, s api.Span, want bool) []api.Cells {
	t.Helper()
	ahead := p.s.Reads()
	l, ok, e := p.s.Cells(nil, w, s)
	is(t, what, e, api.OK)
	is(t, what, ok, want)
	is(t, what+": blocks", p.s.Reads(), ahead)
	if !ok {
		is(t, what, len(l), 0)
		return nil
	}
	var cells []api.Cells
	for _, x := range p.m.selected(t, nil, s) {
		c, e := roll.Cells(w, x.Points)
		is(t, what, e, api.OK)
		cells = append(cells, api.Cells{Labels: x.Labels, Cells: c})
	}
	same(t, what, l, cells)
	return l
}

// compacted tells a store with one segment that has cells of ten.
func compacted(t *testing.T) *pair {
	t.Helper()
	p := newPair(t, config(2, 100, 10))
	p.write(t, wide(set("b", "1"), at(1, 1), at(2, 2), at(11, 3), at(25, 4), at(-3, 5)), narrow(set("a", "1"), at(40, 0.1), at(least, 7), at(greatest, 8)), wide(set("c", "1")))
	p.flush(t)
	p.compact(t, 0, 1)
	return p
}

func TestCells(t *testing.T) {
	p := compacted(t)
	same(t, "Segments", p.s.Segments(), []api.Segment{{Number: 2, Series: 2, Points: 8, Cells: 7, Step: 10}})
	ten := api.Window{Step: 10}
	for range 2 {
		l := p.hasCells(t, "all", ten, all(), true)
		same(t, "in order", []any{l[0].Labels, l[1].Labels}, []any{set("a", "1"), set("b", "1")})
		p.hasCells(t, "wider", api.Window{Step: 20}, all(), true)
		p.hasCells(t, "from elsewhere", api.Window{Step: 30, Origin: -20}, span(0, 29), true)
		p.hasCells(t, "whole ones of ten, not of thirty", api.Window{Step: 30}, span(10, 49), true)
		p.hasCells(t, "nothing there", ten, span(1000, 1999), true)
		p.hasCells(t, "not whole at its end", ten, span(0, 28), false)
		p.hasCells(t, "not whole at its beginning", ten, span(1, 29), false)
		p.hasCells(t, "narrower", api.Window{Step: 5}, all(), false)
		p.hasCells(t, "between", api.Window{Step: 10, Origin: 5}, all(), false)
		p.hasCells(t, "no whole number", api.Window{Step: 25}, all(), false)
		p.hasCells(t, "a step of 0", api.Window{}, all(), false)
		p.hasCells(t, "a step below 0", api.Window{Step: -10}, all(), false)
		p.hasCells(t, "the least step", api.Window{Step: least}, all(), false)
		p.reopen(t)
	}
	l, ok, e := p.s.Cells(equals("a", "1"), ten, all())
	is(t, "of one", len(l), 1)
	is(t, "of one", ok, true)
	is(t, "of one", e, api.OK)
	_, ok, _ = p.s.Cells(equals("x", "1"), ten, all())
	is(t, "of none", ok, true)
}

// TestNoCells: where a head, or another segment, has something, cells don't tell all.
func TestNoCells(t *testing.T) {
	ten := api.Window{Step: 10}
	p := newPair(t, config(2, 100, 10))
	p.hasCells(t, "no segment", ten, all(), false)
	p.write(t, wide(set("a", "1"), at(1, 1)))
	p.flush(t)
	p.hasCells(t, "flushed alone", ten, all(), false)

	p = compacted(t)
	p.write(t, wide(set("d", "1")))
	p.hasCells(t, "a head of nothing", ten, all(), true)
	p.write(t, wide(set("d", "1"), at(5, 5)))
	p.hasCells(t, "a point in the head", ten, all(), false)
	p.delete(t, equals("d", "1"), span(5, 5))
	p.hasCells(t, "a span in the head", ten, all(), false)
	p.flush(t)
	p.hasCells(t, "two segments", ten, all(), false)
	p.compact(t, 1, 2)
	p.hasCells(t, "two segments", ten, all(), false)
	p.compact(t, 0, 2)
	p.hasCells(t, "one again", ten, all(), true)

	other := config(2, 100, 20)
	s := open(t, p.d, other)
	_, ok, e := s.Cells(nil, api.Window{Step: 20}, all())
	is(t, "another step", ok, false)
	is(t, "another step", e, api.OK)
	none := open(t, p.d, config(2, 100, 0))
	_, ok, _ = none.Cells(nil, ten, all())
	is(t, "no step", ok, false)
	is(t, "Compact", none.Compact(0, 1), api.OK)
	same(t, "no cells", none.Segments(), []api.Segment{{Number: 6, Series: 2, Points: 8}})
}

// TestOtherStep: cells of another step are none, even where those of the two would have the same names.
func TestOtherStep(t *testing.T) {
	p := newPair(t, config(2, 100, 10))
	p.write(t, wide(set("a", "1"), at(1, 1), at(25, 2)))
	p.flush(t)
	p.compact(t, 0, 1)
	for _, step := range []int64{5, 20} {
		s := open(t, p.d, config(2, 100, step))
		_, ok, e := s.Cells(nil, api.Window{Step: 20}, all())
		is(t, "Cells", ok, false)
		is(t, "Cells", e, api.OK)
	}
}

// TestMaxKept: so many cells are kept in all rows together, and where there were more there are none.
func TestMaxKept(t *testing.T) {
	p := newPair(t, config(api.MaxBlock, api.MaxPoints, 2))
	for i, name := range []string{"a", "b"} {
		var l []api.Point
		for k := range api.MaxKept {
			l = append(l, at(int64(k+i*9), float64(k)))
		}
		l[0].T -= int64(i) // the second one's windows begin one earlier, and are one more
		p.write(t, wide(set("s", name), l...))
	}
	p.flush(t)
	p.compact(t, 0, 1)
	same(t, "one too many", p.s.Segments(), []api.Segment{{Number: 2, Series: 2, Points: 2 * api.MaxKept}})
	p.hasCells(t, "one too many", api.Window{Step: 2}, all(), false)
	p.delete(t, equals("s", "b"), span(8, 9))
	p.flush(t)
	p.compact(t, 0, 2)
	same(t, "as many as may be", p.s.Segments(), []api.Segment{{Number: 4, Series: 2, Points: 2*api.MaxKept - 1, Cells: api.MaxKept, Step: 2}})
	p.hasCells(t, "as many as may be", api.Window{Step: 64}, all(), true)
	p.tells(t)
	p.reopen(t)
	p.tells(t)
}

// TestValues (T7): what windows tell from cells is what they tell from points.
func TestWindows(t *testing.T) {
	p := compacted(t)
	w := api.Window{Step: 20}
	l, ok, _ := p.s.Cells(equals("b", "1"), w, all())
	is(t, "Cells", ok, true)
	got, e := roll.Values(l[0].Cells, api.AggSum)
	is(t, "Values", e, api.OK)
	same(t, "Values", got, []api.Point{at(-20, 5), at(0, 6), at(20, 4)})
	s, _ := agg.StateOf(l[0].Cells[1].State)
	is(t, "Count", s.Count(), 3)
}

func TestNames(t *testing.T) {
	p := newPair(t, config(2, 100, 10))
	is(t, "Names", len(p.s.Names()), 0)
	p.write(t, wide(set("b", "2", "a", "1")), wide(set("b", "1", "c", "")), wide(nil))
	for range 2 {
		same(t, "Names", p.s.Names(), []string{"a", "b"})
		same(t, "Values", p.s.Values("b"), []string{"1", "2"})
		same(t, "Values", p.s.Values("a"), []string{"1"})
		is(t, "Values", len(p.s.Values("c")), 0)
		is(t, "Values", len(p.s.Values("")), 0)
		p.delete(t, nil, all())
		p.flush(t)
		p.reopen(t)
	}
}
