package agg

import (
	"fathom/api"
	"fathom/exact"
	"fathom/float"
)

// looseWayOf tells a loose kind's way to its value.
func looseWayOf(kind int) func(*Bag) (uint64, bool) {
	switch kind {
	case api.AggCount:
		return number((*exact.Moments).Count)
	case api.AggNans:
		return number((*exact.Moments).Nans)
	case api.AggSum:
		return ofValues((*exact.Moments).Sum)
	case api.AggMean:
		return ofValues((*exact.Moments).Mean)
	case api.AggVar:
		return ofValues((*exact.Moments).Var)
	case api.AggSample:
		return ofValues((*exact.Moments).Sample)
	case api.AggDev:
		return ofValues((*exact.Moments).Dev)
	case api.AggLeast:
		return (*Bag).least
	case api.AggGreatest:
		return (*Bag).greatest
	case api.AggSpread:
		return (*Bag).spread
	}
	return nil
}

// wayOf tells the way to its value of a kind that hangs on times; nil, if it is none.
func wayOf(kind int) func(*State) (uint64, bool) {
	switch kind {
	case api.AggFirst:
		return (*State).first
	case api.AggLast:
		return (*State).last
	case api.AggArea:
		return ofPath((*exact.Path).Area)
	case api.AggStep:
		return ofPath((*exact.Path).Step)
	case api.AggRise:
		return ofPath((*exact.Path).Rise)
	case api.AggSlope:
		return (*State).slope
	}
	return nil
}

// number tells a count as a float.
func number(of func(*exact.Moments) uint64) func(*Bag) (uint64, bool) {
	return func(g *Bag) (uint64, bool) { return float.FromUint(of(&g.moments)), true }
}

func ofValues(of func(*exact.Moments) (uint64, bool)) func(*Bag) (uint64, bool) {
	return func(g *Bag) (uint64, bool) { return of(&g.moments) }
}

func ofPath(of func(*exact.Path) (uint64, bool)) func(*State) (uint64, bool) {
	return func(s *State) (uint64, bool) { return of(&s.path) }
}

func (g *Bag) least() (uint64, bool)    { return g.reach.least, true }
func (g *Bag) greatest() (uint64, bool) { return g.reach.greatest, true }
func (g *Bag) spread() (uint64, bool) {
	return float.Sub(g.reach.greatest, g.reach.least), true
}

func (s *State) first() (uint64, bool) {
	first, _, ok := s.path.Ends()
	return first.V, ok
}

func (s *State) last() (uint64, bool) {
	_, last, ok := s.path.Ends()
	return last.V, ok
}

func (s *State) slope() (uint64, bool) { return s.line.Slope() }
