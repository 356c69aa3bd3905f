package head_test

import (
	"math/rand"
	"slices"
	"testing"

	"fathom/api"
	"fathom/head"
)

// fill writes all over a list, its spare room too.
func fill[A any](l []A, x A) {
	l = l[:cap(l)]
	for i := range l {
		l[i] = x
	}
}

// spoil writes all over a run, and appends to it.
func spoil(r api.Run) {
	bad := api.Point{T: 77, V: 77}
	fill(r.Points, bad)
	fill(append(r.Points, bad), bad)
	fill(r.Spans, span(77, 78))
	fill(append(r.Spans, span(77, 78)), span(77, 78))
}

// R2: points that are handed in are neither changed nor kept, nor is what lies behind them read or written.
func TestPointsStay(t *testing.T) {
	given := points(3, 1, 1, 2, 3, 3, 2, 4)
	behind := api.Point{T: 9, V: 9}
	for _, ahead := range [][]api.Point{nil, points(0, 0), points(2, 5), points(7, 7)} {
		h := head.New()
		h.Put("a", ahead)
		mine := append(slices.Clone(given), behind)
		h.Put("a", mine[:len(given)])
		same(t, "what was handed in", mine, append(slices.Clone(given), behind))
		before := told(h)
		fill(mine, api.Point{T: 77, V: 77})
		same(t, "what stands", told(h), before)
	}
}

// R2: whoever writes into what is told, or appends to it, changes nothing that the head keeps, and nothing else that was told.
func TestAnswersAreNew(t *testing.T) {
	rnd := rand.New(rand.NewSource(156))
	for range 300 {
		h := some(rnd)
		before := told(h)
		for _, key := range keys() {
			one, other, seq := h.Run(key), h.Run(key), h.Range(key, all())
			was := text(other)
			spoil(one)
			same(t, "another answer", text(other), was)
			same(t, "Range", collected(seq), text(api.Run{Points: other.Points}))
		}
		fill(h.Keys(), "spoilt")
		same(t, "what stands", told(h), before)
	}
}

// R2: the runs that Take tells are apart, from one another and from what was told ahead and what comes behind.
func TestTakenIsNew(t *testing.T) {
	rnd := rand.New(rand.NewSource(157))
	for range 300 {
		h := some(rnd)
		want := map[string]string{}
		ranges := map[string]string{}
		seqs := map[string]func(func(api.Point) bool){}
		for _, key := range h.Keys() {
			want[key] = text(h.Run(key))
			ranges[key] = text(api.Run{Points: h.Run(key).Points})
			seqs[key] = h.Range(key, all())
		}
		l := h.Take()
		for _, key := range keys() {
			h.Put(key, points(1, 1, 5, 5, 3, 3))
			deletes(t, h, key, 0, 4)
		}
		before := told(h)
		for _, x := range l {
			same(t, "taken", text(x.Run), want[x.Key])
			spoil(x.Run)
			same(t, "Range", collected(seqs[x.Key]), ranges[x.Key])
		}
		same(t, "what stands", told(h), before)
	}
}

// P15.7: heads have nothing in common, also where one was filled with what another one told.
func TestHeadsKeepToThemselves(t *testing.T) {
	rnd := rand.New(rand.NewSource(158))
	for range 300 {
		one, other := some(rnd), head.New()
		for _, key := range one.Keys() {
			r := one.Run(key)
			for _, s := range r.Spans {
				deletes(t, other, key, s.From, s.Last)
			}
			other.Put(key, r.Points)
		}
		before := told(one)
		same(t, "the other one", told(other), before)
		other.Put("a", somePoints(rnd))
		other.Delete("b", someSpan(rnd))
		other.Forget("ab")
		same(t, "the one", told(one), before)
		other.Take()
		same(t, "the one", told(one), before)
	}
}
