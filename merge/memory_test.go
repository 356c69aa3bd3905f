package merge_test

import (
	"math/rand"
	"slices"
	"testing"

	"fathom/api"
	"fathom/merge"
)

// fill writes all over a list, its spare room too.
func fill[A any](l []A, x A) {
	l = l[:cap(l)]
	for i := range l {
		l[i] = x
	}
}

// spoil writes all over a run, and appends to it.
func spoil(r api.Run) {
	p, s := api.Point{T: 77, V: 77}, span(77, 78)
	fill(r.Points, p)
	fill(append(r.Points, p), p)
	fill(r.Spans, s)
	fill(append(r.Spans, s), s)
}

// roomy tells a run again, with something behind its lists' lengths.
func roomy(r api.Run) api.Run {
	l := append(slices.Clone(r.Points), points(5, 55, 4, 44)...)
	spans := append(slices.Clone(r.Spans), span(9, 8), span(3, 3))
	return api.Run{Points: l[:len(r.Points)], Spans: spans[:len(r.Spans)]}
}

// whole tells a run with what lies behind its lists' lengths.
func whole(r api.Run) api.Run {
	return api.Run{Points: r.Points[:cap(r.Points)], Spans: r.Spans[:cap(r.Spans)]}
}

func copied(r api.Run) api.Run { return run(slices.Clone(r.Points), slices.Clone(r.Spans)...) }

// some tells runs with spare room, and what lies in them.
func some(rnd *rand.Rand) (l, was []api.Run) {
	for _, r := range someRuns(rnd, someOf(rnd, 1, 2, 5, 40)) {
		r = roomy(r)
		l, was = append(l, r), append(was, copied(whole(r)))
	}
	return l, was
}

// stays: all of the runs' memory is as it was.
func stays(t *testing.T, l, was []api.Run) {
	t.Helper()
	for i, r := range l {
		is(t, "what was handed in", whole(r), was[i])
	}
}

// asked does all that may be asked of runs, and tells the runs that were told; f is what Each calls.
func asked(t *testing.T, l []api.Run, s api.Span, f func(api.Point) bool) []api.Run {
	t.Helper()
	out := []api.Run{merged(t, l...)}
	var spans []api.Span
	for i, r := range l {
		out = append(out, cut(t, r, s), cut(t, r, all()), two(t, r, l[0]), two(t, l[0], r), two(t, r, api.Run{}), two(t, api.Run{}, r), merged(t, r), merged(t, l[i:]...))
		spans = append(spans, r.Spans...)
	}
	spans, e := merge.Spans(spans)
	if e != api.OK {
		t.Fatal(e)
	}
	merge.Each(l, s, f)
	return append(out, run(nil, spans...), run(each(t, l, s)))
}

// R2: what is handed in is neither changed, nor told again; what is told shares memory with nothing.
func TestMemory(t *testing.T) {
	rnd := rand.New(rand.NewSource(165))
	for range 300 {
		l, was := some(rnd)
		s := someSpan(rnd)
		x := seq(t, l, s)
		points := slices.Collect(x)
		out := asked(t, l, s, func(api.Point) bool { return true })
		stays(t, l, was)
		var want []api.Run
		for _, r := range out {
			want = append(want, copied(r))
		}
		for i := range out {
			spoil(out[i])
			for k := i + 1; k < len(out); k++ {
				is(t, "another answer", out[k], want[k])
			}
			stays(t, l, was)
		}
		is(t, "Seq", run(slices.Collect(x)), run(points))
	}
}

// R2: the two lists of a run, and runs that were told of one and the same, are apart.
func TestAnswersAreApart(t *testing.T) {
	r := roomy(newer())
	one, other := two(t, r, r), two(t, r, r)
	spoil(one)
	is(t, "the other", other, newer())
	is(t, "handed in", r, newer())
	spoil(r)
	is(t, "the other", other, newer())
}

// P16.5, P16.6: what was handed in may be written over, behind Seq and while Each calls f.
func TestWrittenOver(t *testing.T) {
	rnd := rand.New(rand.NewSource(166))
	for range 500 {
		l := someRuns(rnd, someOf(rnd, 2, 5, 40))
		s := someSpan(rnd)
		want := run(cut(t, merged(t, l...), s).Points)
		x := seq(t, l, s)
		var got []api.Point
		merge.Each(l, s, func(p api.Point) bool {
			got = append(got, p)
			for i := range l {
				spoil(l[i])
				l[i] = run(points(p.T, 1))
			}
			return true
		})
		is(t, "Each", run(got), want)
		for i := range l {
			spoil(l[i])
			l[i] = api.Run{}
		}
		is(t, "Seq", run(slices.Collect(x)), want)
	}
}

// R2: a list of spans that is handed in stays in its order.
func TestSpansStay(t *testing.T) {
	l := []api.Span{span(5, 6), span(1, 2), span(3, 3), span(9, 8), span(0, 0)}
	was := slices.Clone(l)
	got, e := merge.Spans(l[:3])
	same(t, "Spans", text(run(nil, got...)), "1..3 5..6 ")
	same(t, "error", e, api.OK)
	fill(got, span(77, 78))
	if !slices.Equal(l, was) {
		t.Errorf("%v", l)
	}
	again, _ := merge.Spans(l[:1])
	fill(again, span(77, 78))
	if !slices.Equal(l, was) {
		t.Errorf("%v", l)
	}
}
