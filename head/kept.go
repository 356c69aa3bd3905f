package head

import (
	"cmp"
	"slices"

	"fathom/api"
)

// kept is what a key has: a run in normal form. Nobody else has its memory.
type kept struct {
	api.Run
}

// copied tells the run in memory of its own.
func (x *kept) copied() api.Run {
	return api.Run{Points: slices.Clone(x.Points), Spans: slices.Clone(x.Spans)}
}

// within tells the points of a stretch, in the run's own memory.
func (x *kept) within(s stretch) []api.Point {
	from, end := x.places(s)
	return x.Points[from:end]
}

// places tells where the points of a stretch begin and end. (Of one that ends ahead of its beginning the end would lie ahead, too.)
func (x *kept) places(s stretch) (int, int) {
	from := first(x.Points, s.hasBegun)
	return from, max(from, first(x.Points, s.hasPassed))
}

// lay lays points, each in the place of the one at its time.
func (x *kept) lay(l []api.Point) {
	var fresh []api.Point
	for _, p := range latest(l) {
		at, there := slices.BinarySearchFunc(x.Points, p, byTime)
		if there {
			x.Points[at] = p
		} else {
			fresh = append(fresh, p)
		}
	}
	x.insert(fresh)
}

// insert lays points that rise, at times that have none. It begins with the last one, so that each older point moves once, however many are laid.
func (x *kept) insert(l []api.Point) {
	end := len(x.Points)
	x.Points = append(x.Points, l...)
	for n, p := range slices.Backward(l) {
		at, _ := slices.BinarySearchFunc(x.Points[:end], p, byTime)
		copy(x.Points[at+n+1:], x.Points[at:end])
		x.Points[at+n] = p
		end = at
	}
}

// hide takes the points of a stretch away, and joins it with the spans that it touches.
func (x *kept) hide(s stretch) {
	from, end := x.places(s)
	x.Points = slices.Delete(x.Points, from, end)
	from, end = first(x.Spans, s.reaches), first(x.Spans, s.isAhead)
	if from < end {
		s.From = min(s.From, x.Spans[from].From)
		s.Last = max(s.Last, x.Spans[end-1].Last)
	}
	x.Spans = slices.Replace(x.Spans, from, end, s.Span)
}

// latest tells points by their times, of those at one time the last one: turned round, it is the first of them, which Compact keeps.
func latest(l []api.Point) []api.Point {
	l = slices.Clone(l)
	slices.Reverse(l)
	slices.SortStableFunc(l, byTime)
	return slices.CompactFunc(l, func(a, b api.Point) bool { return a.T == b.T })
}

func byTime(a, b api.Point) int { return cmp.Compare(a.T, b.T) }

// row is points that never change.
type row []api.Point

// each hands on the points, as long as more are wanted.
func (l row) each(more func(api.Point) bool) {
	for _, p := range l {
		if more == nil || !more(p) {
			return
		}
	}
}
