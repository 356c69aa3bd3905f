package head

import (
	"sort"

	"fathom/api"
)

// stretch is a span that is held against points and other spans. What it answers is, along a run, no up to some place, and yes from there on.
type stretch struct {
	api.Span
}

// hasBegun: it begins at this point, or ahead of it.
func (s stretch) hasBegun(p api.Point) bool { return s.From <= p.T }

// hasPassed: it ends ahead of this point.
func (s stretch) hasPassed(p api.Point) bool { return s.Last < p.T }

// reaches: the other one isn't wholly ahead of it: they touch, or the other one is behind it.
func (s stretch) reaches(other api.Span) bool { return !apart(other, s.Span) }

// isAhead: the other one is behind it, and doesn't touch it.
func (s stretch) isAhead(other api.Span) bool { return apart(s.Span, other) }

// apart tells whether a time lies between one span's end and another one's beginning. It adds only to what is below another number, so that nothing wraps.
func apart(a, b api.Span) bool { return a.Last < b.From && a.Last+1 < b.From }

// first tells the place of the first item that is such a one, where all behind it are, too.
func first[T any](l []T, such func(T) bool) int {
	return sort.Search(len(l), func(i int) bool { return such(l[i]) })
}
