package store

import (
	"slices"

	"fathom/api"
	"fathom/merge"
	"fathom/roll"
)

// points, spans tell how many of them lie in the store, hidden ones too.
func (s *Store) points() int { return s.head.Points() + s.shape.points() }
func (s *Store) spans() int  { return s.head.Spans() + s.shape.spans() }

func (s *Store) isHeadEmpty() bool { return s.head.Points() == 0 && s.head.Spans() == 0 }

// asked tells the numbers of the series that match takes, if the span is one, too.
func (s *Store) asked(match []api.Matcher, span api.Span) ([]uint64, api.Errno) {
	numbers, e := s.known.find(match)
	if e == api.OK && span.From > span.Last {
		return nil, api.ErrStoreSpan
	}
	return numbers, e
}

// standing tells the points of a series that stand in a span, and how many blocks were decoded.
func (s *Store) standing(key string, span api.Span) ([]api.Point, int64) {
	newest, _ := merge.Cut(s.head.Run(key), span)
	older, reads := runsOf(s.shape.parts, key, span)
	r, _ := merge.All(slices.Concat([]api.Run{newest}, older)) // all of them are runs
	return r.Points, reads
}

func (s *Store) selected(match []api.Matcher, span api.Span) ([]api.Series, api.Errno) {
	numbers, e := s.asked(match, span)
	if e != api.OK {
		return nil, e
	}
	var l []api.Series
	reads := int64(0)
	for _, x := range s.known.inOrder(numbers) {
		points, n := s.standing(x.key, span)
		reads += n
		if len(points) > 0 {
			l = append(l, api.Series{Labels: slices.Clone(x.labels), Kind: x.kind, Points: points})
		}
	}
	// Once for all: who asks for the number meanwhile doesn't wait, and is told none that no call has left.
	s.reads.Add(reads)
	return l, api.OK
}

// hasCells tells whether cells may answer a question: all that stands lies in one segment's cells, and these are whole ones of what is asked.
func (s *Store) hasCells(w api.Window, span api.Span) bool {
	if s.config.Step == 0 || w.Step <= 0 || len(s.shape.parts) != 1 || s.shape.parts[0].Step != s.config.Step || !s.isHeadEmpty() {
		return false
	}
	fits, _ := roll.Fits(s.windows(), w) // both steps are above 0
	whole, _ := roll.Whole(s.windows(), span)
	return fits && whole
}

func (s *Store) cells(match []api.Matcher, w api.Window, span api.Span) ([]api.Cells, bool, api.Errno) {
	numbers, e := s.asked(match, span)
	if e != api.OK || !s.hasCells(w, span) {
		return nil, false, e
	}
	var l []api.Cells
	for _, x := range s.known.inOrder(numbers) {
		cells, good := s.cellsOf(x.key, w, span)
		if !good {
			return nil, false, api.OK
		}
		if len(cells) > 0 {
			l = append(l, api.Cells{Labels: slices.Clone(x.labels), Cells: cells})
		}
	}
	return l, true, api.OK
}

// cellsOf tells a series' cells in a span, made wider. Roll refuses none that a store has made; of others, as Open may find them, two may say too many points together.
func (s *Store) cellsOf(key string, w api.Window, span api.Span) ([]api.Cell, bool) {
	file := s.shape.parts[0].file
	i, there := file.Find(key)
	if !there {
		return nil, true
	}
	all, _ := file.Cells(i) // they were read ahead
	some, e := roll.Within(s.windows(), all, span)
	if e != api.OK {
		return nil, false
	}
	wide, e := roll.Wider(s.windows(), w, some)
	return wide, e == api.OK
}

// toldParts tells the segments, the oldest first.
func (s *Store) toldParts() []api.Segment {
	var l []api.Segment
	for _, p := range s.shape.parts {
		l = append(l, p.Segment)
	}
	return l
}
