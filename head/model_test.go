package head_test

import (
	"fmt"
	"maps"
	"math/rand"
	"slices"
	"testing"

	"fathom/api"
	"fathom/head"
)

// model is, of each key, what its Puts and Deletes were: of each point, of each deletion, one run, the latest first.
type model map[string][]api.Run

func (w model) put(key string, l []api.Point) {
	for _, p := range l {
		w[key] = append([]api.Run{{Points: []api.Point{p}}}, w[key]...)
	}
}

func (w model) remove(key string, s api.Span) {
	w[key] = append([]api.Run{{Spans: []api.Span{s}}}, w[key]...)
}

// run tells what all runs of a key make together (P16.3), by going through all times at which something may stand.
func (w model) run(key string) api.Run {
	var r api.Run
	for _, t := range times() {
		if v, there := standing(w[key], t); there {
			r.Points = append(r.Points, api.Point{T: t, V: v})
		}
	}
	r.Spans = covered(w[key])
	return r
}

// standing tells what stands at a time: a run has it, and no newer one has a point or a span there.
func standing(l []api.Run, t int64) (uint64, bool) {
	for _, r := range l {
		for _, p := range r.Points {
			if p.T == t {
				return p.V, true
			}
		}
		if holds(r.Spans, t) {
			return 0, false
		}
	}
	return 0, false
}

func holds(l []api.Span, t int64) bool {
	for _, s := range l {
		if s.From <= t && t <= s.Last {
			return true
		}
	}
	return false
}

// covered tells the spans in normal form that hold the times which one of the runs' spans holds. Spans begin and end at one of times(): between two of these that are no neighbours it is enough to look at one time.
func covered(runs []api.Run) []api.Span {
	var spans, l []api.Span
	for _, r := range runs {
		spans = append(spans, r.Spans...)
	}
	open := false
	all := times()
	for n, t := range all {
		gap := n > 0 && t-1 != all[n-1] && !holds(spans, t-1)
		switch {
		case !holds(spans, t):
			open = false
		case open && !gap:
			l[len(l)-1].Last = t
		default:
			l, open = append(l, span(t, t)), true
		}
	}
	return l
}

// tells: a head tells what the model does.
func tells(t *testing.T, rnd *rand.Rand, h *head.Head, w model) {
	t.Helper()
	nPoints, nSpans := 0, 0
	for _, key := range keys() {
		r := w.run(key)
		runs(t, h, key, text(r))
		s := span(someTime(rnd), someTime(rnd))
		same(t, "Range", collected(h.Range(key, s)), text(api.Run{Points: slices.DeleteFunc(slices.Clone(r.Points), func(p api.Point) bool { return p.T < s.From || p.T > s.Last })}))
		nPoints, nSpans = nPoints+len(r.Points), nSpans+len(r.Spans)
	}
	same(t, "Keys", quoted(h.Keys()), quoted(slices.Sorted(maps.Keys(w))))
	same(t, "counts", fmt.Sprint(h.Points(), h.Spans()), fmt.Sprint(nPoints, nSpans))
}

// take tells what Take is to tell, and leaves nothing.
func (w model) take() string {
	var l []api.Held
	for _, key := range slices.Sorted(maps.Keys(w)) {
		l = append(l, api.Held{Key: key, Run: w.run(key)})
	}
	clear(w)
	return held(l)
}

// P15.1 to P15.6: any calls, upon two heads which have nothing in common.
func TestAsTheModel(t *testing.T) {
	rnd := rand.New(rand.NewSource(152))
	for range 400 {
		heads, models := []*head.Head{head.New(), head.New()}, []model{{}, {}}
		for range 60 {
			at := rnd.Intn(2)
			h, w := heads[at], models[at]
			key := someOf(rnd, keys()...)
			switch k := rnd.Intn(40); {
			case k == 0:
				same(t, "Take", held(h.Take()), w.take())
			case k < 3:
				h.Forget(key)
				delete(w, key)
			case k < 16:
				s := someSpan(rnd)
				same(t, "Delete", h.Delete(key, s), api.OK)
				w.remove(key, s)
			default:
				l := somePoints(rnd)
				h.Put(key, l)
				w.put(key, l)
			}
			if rnd.Intn(4) == 0 {
				tells(t, rnd, h, w)
			}
		}
		tells(t, rnd, heads[0], models[0])
		tells(t, rnd, heads[1], models[1])
	}
}

// P15.6: what is done to one key changes no other.
func TestKeysKeepToThemselves(t *testing.T) {
	rnd := rand.New(rand.NewSource(153))
	for range 500 {
		h := some(rnd)
		key := someOf(rnd, keys()...)
		before := map[string]string{}
		for _, other := range keys() {
			before[other] = text(h.Run(other))
		}
		h.Put(key, somePoints(rnd))
		h.Delete(key, someSpan(rnd))
		if rnd.Intn(2) == 0 {
			h.Forget(key)
		}
		for _, other := range keys() {
			if other != key {
				runs(t, h, other, before[other])
			}
		}
	}
}

// P15.6: Put twice is Put once; Puts at unlike times may stand in any order.
func TestPutTwice(t *testing.T) {
	rnd := rand.New(rand.NewSource(154))
	for range 500 {
		h := some(rnd)
		l := somePoints(rnd)
		h.Put("a", l)
		before := told(h)
		h.Put("a", l)
		h.Put("a", append(slices.Clone(l), l...))
		same(t, "twice", told(h), before)
	}
	for range 500 {
		perm := rnd.Perm(len(times()))
		x, y := points(times()[perm[0]], 1, times()[perm[1]], 2), points(times()[perm[2]], 3)
		seed := rnd.Int63()
		one, other := some(rand.New(rand.NewSource(seed))), some(rand.New(rand.NewSource(seed)))
		one.Put("a", x)
		one.Put("a", y)
		other.Put("a", y)
		other.Put("a", x[1:])
		other.Put("a", x[:1])
		same(t, "in any order", told(one), told(other))
	}
}

// P15.6: a head to which what was taken is given again tells what was told ahead of Take.
func TestGivenAgain(t *testing.T) {
	rnd := rand.New(rand.NewSource(155))
	for range 500 {
		h := some(rnd)
		before := told(h)
		again := head.New()
		for _, x := range h.Take() {
			for _, s := range x.Run.Spans {
				deletes(t, again, x.Key, s.From, s.Last)
				deletes(t, h, x.Key, s.From, s.Last)
			}
			again.Put(x.Key, x.Run.Points)
			h.Put(x.Key, x.Run.Points)
		}
		same(t, "another one", told(again), before)
		same(t, "the same one", told(h), before)
	}
}

// P15.1 to P15.3: many points, in rows that fall and in rows that lie between one another.
func TestMany(t *testing.T) {
	const n = 1 << 17
	h := head.New()
	var l []api.Point
	for t := int64(n - 1); t >= 0; t -= 2 {
		l = append(l, api.Point{T: t, V: uint64(t)}, api.Point{T: t, V: uint64(t) + 1})
	}
	h.Put("a", l)
	for t := int64(0); t < n; t += 2 {
		l[t/2] = api.Point{T: t, V: uint64(t) + 1}
	}
	for piece := range slices.Chunk(l[:n/2], 1000) {
		h.Put("a", piece)
	}
	got := h.Run("a").Points
	if len(got) != n || h.Points() != n {
		t.Fatalf("%d, %d points", len(got), h.Points())
	}
	for k, p := range got {
		if p.T != int64(k) || p.V != uint64(k)+1 {
			t.Fatalf("%d: %v", k, p)
		}
	}
	for t := int64(0); t < n; t += 64 {
		h.Delete("a", span(t, t+61))
	}
	same(t, "counts", fmt.Sprint(h.Points(), h.Spans()), fmt.Sprint(n/32, n/64))
	for t := int64(62); t < n-64; t += 64 {
		h.Delete("a", span(t, t+1))
	}
	same(t, "joined", fmt.Sprint(h.Points(), h.Run("a").Spans), fmt.Sprint(2, []api.Span{span(0, n-3)}))
}
