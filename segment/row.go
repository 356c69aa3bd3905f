package segment

import (
	"cmp"

	"fathom/api"
	"fathom/float"
)

func isSize(size int) bool { return size >= 1 && size <= api.MaxBlock }

// refusal tells the error of what no segment has.
func refusal(size int, l []api.Row) api.Errno {
	if !isSize(size) {
		return api.ErrSegmentSize
	}
	if len(l) > api.MaxSeries || !rise(l, func(r api.Row) string { return r.Key }) {
		return api.ErrSegmentRows
	}
	for _, r := range l {
		if !mayBe(r) {
			return api.ErrSegmentRow
		}
	}
	return api.OK
}

// mayBe tells whether a row may be.
func mayBe(r api.Row) bool {
	if len(r.Key) > api.MaxKey {
		return false
	}
	return pointsMayBe(r.Kind, r.Run.Points) && spansMayBe(r.Run.Spans) && cellsMayBe(r.Cells)
}

// pointsMayBe tells whether points may be a row's of this kind; there need not be any, but the kind must be one.
func pointsMayBe(kind int, l []api.Point) bool {
	if kind != api.KindWide && kind != api.KindNarrow {
		return false
	}
	for _, p := range l {
		if kind == api.KindNarrow && float.Widen(float.Narrow(p.V)) != p.V {
			return false
		}
	}
	return rise(l, func(p api.Point) int64 { return p.T })
}

// spansMayBe tells whether spans are in order, with a time between each and the next one.
func spansMayBe(l []api.Span) bool {
	for i, x := range l {
		if x.From > x.Last {
			return false
		}
		if i > 0 && (x.From <= l[i-1].Last || x.From-1 == l[i-1].Last) {
			return false
		}
	}
	return true
}

func cellsMayBe(l []api.Cell) bool {
	for _, c := range l {
		if len(c.State) > api.MaxState {
			return false
		}
	}
	return len(l) <= api.MaxCells && rise(l, func(c api.Cell) int64 { return c.First })
}

// rise tells whether each is above the one ahead, by what a function tells of them.
func rise[A any, B cmp.Ordered](l []A, of func(A) B) bool {
	for i := 1; i < len(l); i++ {
		if of(l[i]) <= of(l[i-1]) {
			return false
		}
	}
	return true
}
