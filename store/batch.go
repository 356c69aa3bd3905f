package store

import (
	"fathom/api"
	"fathom/float"
	"fathom/label"
)

// written is a write whose series may be.
type written struct {
	series
	points []api.Point
}

// batch is writes that may be done, one behind the other; fresh are the series that were not known, in their order, and kinds has these by their keys.
type batch struct {
	known  *known
	writes []written
	fresh  []series
	kinds  map[string]int
	points int
}

func newBatch(k *known) *batch { return &batch{known: k, kinds: map[string]int{}} }

// take has the batch have one write more; it tells whether the series has no other kind.
func (b *batch) take(x series, points []api.Point) bool {
	kind := b.kindOf(x.key)
	if kind == api.KindNone {
		kind = x.kind
		b.kinds[x.key] = kind
		b.fresh = append(b.fresh, x)
	}
	b.writes = append(b.writes, written{series: x, points: points})
	b.points += len(points)
	return kind == x.kind
}

// kindOf tells the kind that a series has, as known or by a write ahead; KindNone, if it has none yet.
func (b *batch) kindOf(key string) int {
	if kind := b.known.kindOf(key); kind != api.KindNone {
		return kind
	}
	return b.kinds[key]
}

// isLong tells whether so many writes, of so many points together, are too many.
func isLong(writes, points int) bool { return writes > api.MaxWrites || points > api.MaxBatch }

// batchOf tells the batch of what was handed in, or the error of the first thing that may not be.
func batchOf(k *known, l []api.Write) (*batch, api.Errno) {
	points := 0
	for _, w := range l {
		points += len(w.Points)
	}
	if isLong(len(l), points) {
		return nil, api.ErrStoreLong
	}
	b := newBatch(k)
	for _, w := range l {
		key, good := keyOf(w.Labels)
		if !good {
			return nil, api.ErrStoreLabels
		}
		if x, good := seriesOf(key, w.Kind); !good || !b.take(x, w.Points) {
			return nil, api.ErrStoreKind
		}
	}
	return b, api.OK
}

// keyOf tells the key of labels, if these may be a series'.
func keyOf(l []api.Label) (string, bool) {
	set, e := label.Set(l)
	if e != api.OK {
		return "", false
	}
	key, e := label.Key(set)
	return string(key), e == api.OK && len(key) <= api.MaxKey
}

// put does the batch's writes. There must be room for all.
func (s *Store) put(b *batch) {
	for _, x := range b.fresh {
		s.known.add(x)
	}
	for _, w := range b.writes {
		s.head.Put(w.key, kept(w.kind, w.points))
	}
}

// kept tells points as a series of a kind keeps them.
func kept(kind int, l []api.Point) []api.Point {
	if kind == api.KindWide {
		return l
	}
	thin := make([]api.Point, len(l))
	for i, p := range l {
		thin[i] = api.Point{T: p.T, V: float.Widen(float.Narrow(p.V))}
	}
	return thin
}

// hide does a deletion: of a span that is not backward, in the series of these numbers.
func (s *Store) hide(numbers []uint64, span api.Span) {
	for _, n := range numbers {
		s.head.Delete(s.known.list[n].key, span)
	}
}
