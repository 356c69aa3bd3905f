package merge

import (
	"cmp"
	"slices"

	"fathom/api"
)

func rise(l []api.Point) bool {
	for i := 1; i < len(l); i++ {
		if l[i-1].T >= l[i].T {
			return false
		}
	}
	return true
}

// two tells one run of two, in memory of its own.
func two(newer, older api.Run) api.Run {
	return api.Run{
		Points: over(newer.Points, bare(older.Points, newer.Spans)),
		Spans:  united(newer.Spans, older.Spans),
	}
}

// all halves the list, so that a point is moved as often as the list can be halved, and not once a run.
func all(l []api.Run) api.Run {
	switch len(l) {
	case 0:
		return api.Run{}
	case 1:
		return api.Run{Points: slices.Clone(l[0].Points), Spans: slices.Clone(l[0].Spans)}
	}
	half := len(l) / 2
	return two(all(l[:half]), all(l[half:]))
}

// cut tells what of a run lies in a span, in memory of its own.
func cut(r api.Run, s api.Span) api.Run {
	var out api.Run
	for _, p := range r.Points {
		if s.From <= p.T && p.T <= s.Last {
			out.Points = append(out.Points, p)
		}
	}
	for _, x := range r.Spans {
		if part := (api.Span{From: max(x.From, s.From), Last: min(x.Last, s.Last)}); !isBackward(part) {
			out.Spans = append(out.Spans, part)
		}
	}
	return out
}

func cuts(l []api.Run, s api.Span) []api.Run {
	var out []api.Run
	for _, r := range l {
		out = append(out, cut(r, s))
	}
	return out
}

// bare tells the points that no span hides.
func bare(l []api.Point, spans []api.Span) []api.Point {
	var out []api.Point
	for _, p := range l {
		for len(spans) > 0 && spans[0].Last < p.T {
			spans = spans[1:]
		}
		if len(spans) == 0 || p.T < spans[0].From {
			out = append(out, p)
		}
	}
	return out
}

// over tells newer points and older ones, of two at one time the newer: it stands ahead, and Compact keeps it.
func over(newer, older []api.Point) []api.Point {
	return slices.CompactFunc(woven(newer, older, byTime), func(a, b api.Point) bool { return a.T == b.T })
}

func byTime(a, b api.Point) int { return cmp.Compare(a.T, b.T) }

// woven tells two lists that are in order as one, in memory of its own; of items that are as good those of a stand ahead.
func woven[T any](a, b []T, compare func(x, y T) int) []T {
	out := make([]T, 0, len(a)+len(b))
	for len(a) > 0 && len(b) > 0 {
		if compare(b[0], a[0]) < 0 {
			out, b = append(out, b[0]), b[1:]
		} else {
			out, a = append(out, a[0]), a[1:]
		}
	}
	return append(append(out, a...), b...)
}
