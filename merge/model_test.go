package merge_test

import (
	"fmt"
	"math/rand"
	"slices"
	"testing"

	"fathom/api"
	"fathom/head"
	"fathom/merge"
)

// standing tells what stands at a time by P16.7: some run has it, and no newer one a point or a span there.
func standing(l []api.Run, t int64) (uint64, bool) {
	for _, r := range l {
		for _, p := range r.Points {
			if p.T == t {
				return p.V, true
			}
		}
		if holds(r.Spans, t) {
			return 0, false
		}
	}
	return 0, false
}

func holds(l []api.Span, t int64) bool {
	for _, s := range l {
		if s.From <= t && t <= s.Last {
			return true
		}
	}
	return false
}

// covered tells the spans in normal form that hold the times which one of these spans holds, of spans that begin and end at one of some times: between two of these that are no neighbours it is enough to look at one time.
func covered(spans []api.Span, at []int64) []api.Span {
	var l []api.Span
	open := false
	for n, t := range at {
		gap := n > 0 && t-1 != at[n-1] && !holds(spans, t-1)
		switch {
		case !holds(spans, t):
			open = false
		case open && !gap:
			l[len(l)-1].Last = t
		default:
			l, open = append(l, span(t, t)), true
		}
	}
	return l
}

// model tells what all runs make together, where they speak of these times alone.
func model(l []api.Run, at []int64) api.Run {
	var r api.Run
	for _, t := range at {
		if v, there := standing(l, t); there {
			r.Points = append(r.Points, api.Point{T: t, V: v})
		}
	}
	var spans []api.Span
	for _, x := range l {
		spans = append(spans, x.Spans...)
	}
	r.Spans = covered(spans, at)
	return r
}

// clipped tells what of a run lies in a span; both ends of it are among the times.
func clipped(r api.Run, s api.Span, at []int64) api.Run {
	inside := slices.DeleteFunc(slices.Clone(at), func(t int64) bool { return t < s.From || s.Last < t })
	out := model([]api.Run{{Points: r.Points}}, inside)
	out.Spans = covered(r.Spans, inside)
	return out
}

// stretch tells so many times from one on.
func stretch(from int64, n int) []int64 {
	var l []int64
	for i := range int64(n) {
		l = append(l, from+i)
	}
	return l
}

// stretches: at both ends of time, and between.
func stretches(n int) [][]int64 {
	return [][]int64{stretch(least, n), stretch(-2, n), stretch(greatest-int64(n)+1, n)}
}

// runsOver tells all runs that speak of no other times, with values that begin at v.
func runsOver(at []int64, v uint64) []api.Run {
	var l []api.Run
	for points := range 1 << len(at) {
		for spans := range 1 << len(at) {
			var r api.Run
			var single []api.Span
			for i, t := range at {
				if points>>i&1 == 1 {
					r.Points = append(r.Points, api.Point{T: t, V: v + uint64(i)})
				}
				if spans>>i&1 == 1 {
					single = append(single, span(t, t))
				}
			}
			r.Spans = covered(single, at)
			l = append(l, r)
		}
	}
	return l
}

// P16.1: all short lists of spans over a few times, those that may not be too.
func TestSpansAsTheModel(t *testing.T) {
	for _, at := range stretches(5) {
		var spans []api.Span
		for _, from := range at {
			for _, last := range at {
				spans = append(spans, span(from, last))
			}
		}
		for _, a := range spans {
			for _, b := range spans {
				spansOf(t, at, a, b)
				for _, c := range spans {
					spansOf(t, at, a, b, c)
				}
			}
		}
	}
}

func spansOf(t *testing.T, at []int64, l ...api.Span) {
	var want []api.Span
	e := api.ErrMergeSpan
	backward := slices.ContainsFunc(l, func(s api.Span) bool { return s.From > s.Last })
	if !backward {
		want, e = covered(l, at), api.OK
	}
	got, told := merge.Spans(l)
	if !slices.Equal(got, want) || told != e {
		t.Fatalf("Spans of %v: %v, %d", l, got, told)
	}
	// In normal form there is one list for the same times.
	if normal := merge.Normal(run(nil, l...)); normal != (!backward && slices.Equal(l, want)) {
		t.Fatalf("Normal of %v: %t", l, normal)
	}
}

// P16.1: all short lists of points over a few times.
func TestNormalPoints(t *testing.T) {
	for _, at := range stretches(3) {
		for _, a := range at {
			for _, b := range at {
				for _, c := range at {
					r := run(points(a, 1, b, 1, c, 1))
					if merge.Normal(r) != (a < b && b < c) {
						t.Errorf("Normal(%s)", text(r))
					}
				}
			}
		}
	}
}

// P16.2: all runs over a few times, over all others.
func TestTwoAsTheModel(t *testing.T) {
	for _, at := range stretches(4) {
		for _, a := range runsOver(at, 10) {
			for _, b := range runsOver(at, 20) {
				r := two(t, a, b)
				is(t, text(a)+"over "+text(b), r, model([]api.Run{a, b}, at))
				if !merge.Normal(r) {
					t.Fatalf("not in normal form: %s", text(r))
				}
			}
		}
	}
}

// P16.3, P16.7: of all three runs over a few times the grouping doesn't matter.
func TestGroupingOfThree(t *testing.T) {
	for _, at := range stretches(3) {
		newest, middle, oldest := runsOver(at, 10), runsOver(at, 20), runsOver(at, 30)
		for _, b := range middle {
			for _, c := range oldest {
				behind := two(t, b, c)
				for _, a := range newest {
					r := two(t, a, behind)
					is(t, "ahead or behind", two(t, two(t, a, b), c), r)
					is(t, "All", merged(t, a, b, c), r)
				}
			}
		}
	}
}

// P16.4, P16.7: all runs over a few times, cut to all spans over them; Cut of Two is Two of both Cuts.
func TestCutAsTheModel(t *testing.T) {
	rnd := rand.New(rand.NewSource(160))
	for _, at := range stretches(4) {
		l := runsOver(at, 10)
		for i, from := range at {
			for _, last := range at[i:] {
				s := span(from, last)
				for _, r := range l {
					part := cut(t, r, s)
					is(t, fmt.Sprint("Cut of ", text(r), "to ", s), part, clipped(r, s, at))
					other := someOf(rnd, l...)
					is(t, "Cut of Two", cut(t, two(t, r, other), s), two(t, part, cut(t, other, s)))
				}
			}
		}
	}
}

// P16.5, P16.6: Seq and Each tell the points of Cut of All: of two runs over a few times, at all spans.
func TestPointsAsTheModel(t *testing.T) {
	for _, at := range stretches(3) {
		for _, a := range runsOver(at, 10) {
			for _, b := range runsOver(at, 20) {
				for i, from := range at {
					for _, last := range at[i:] {
						pointsOf(t, []api.Run{a, b}, span(from, last), at)
					}
				}
			}
		}
	}
}

func pointsOf(t *testing.T, l []api.Run, s api.Span, at []int64) {
	t.Helper()
	want := run(clipped(model(l, at), s, at).Points)
	is(t, "Seq", run(slices.Collect(seq(t, l, s))), want)
	is(t, "Each", run(each(t, l, s)), want)
}

// P16.2 to P16.7: any runs, few of them and many, at the ends of time too.
func TestAsTheModel(t *testing.T) {
	rnd := rand.New(rand.NewSource(161))
	for n := range 1500 {
		l := someRuns(rnd, someOf(rnd, 3, 6, 50))
		want := model(l, times())
		is(t, "All", merged(t, l...), want)
		s := someSpan(rnd)
		is(t, "Cut of All", cut(t, want, s), clipped(want, s, times()))
		pointsOf(t, l, s, times())
		if n%3 == 0 {
			pointsOf(t, l, all(), times())
		}
	}
}

// P16.7: rows of neighbours may be merged ahead, whichever they are.
func TestGrouping(t *testing.T) {
	rnd := rand.New(rand.NewSource(162))
	for range 1000 {
		l := someRuns(rnd, 20)
		want := merged(t, l...)
		var groups []api.Run
		for rest := l; len(rest) > 0; {
			n := rnd.Intn(len(rest) + 1)
			groups = append(groups, merged(t, rest[:n]...))
			rest = rest[n:]
		}
		is(t, "groups", merged(t, groups...), want)
		s := someSpan(rnd)
		is(t, "Seq of groups", run(slices.Collect(seq(t, groups, s))), run(cut(t, want, s).Points))
		is(t, "Each of groups", run(each(t, groups, s)), run(cut(t, want, s).Points))
		var behind api.Run
		for _, r := range slices.Backward(l) {
			behind = two(t, r, behind)
		}
		is(t, "from the oldest on", behind, want)
		var ahead api.Run
		for _, r := range l {
			ahead = two(t, ahead, r)
		}
		is(t, "from the newest on", ahead, want)
	}
}

// P16.7: an empty run changes nothing on either side; a run with itself is that run.
func TestEmptyAndItself(t *testing.T) {
	for _, at := range stretches(4) {
		for _, r := range runsOver(at, 10) {
			is(t, "nothing behind", two(t, r, api.Run{}), r)
			is(t, "nothing ahead", two(t, run([]api.Point{}, []api.Span{}...), r), r)
			is(t, "itself", two(t, r, r), r)
			is(t, "alone", merged(t, r), r)
			is(t, "the whole", cut(t, r, all()), r)
		}
	}
}

// P16.7: runs that speak of no time in common may stand in any order.
func TestAnyOrder(t *testing.T) {
	rnd := rand.New(rand.NewSource(163))
	for range 500 {
		var l []api.Run
		whole := someRun(rnd)
		from := int64(least)
		for _, last := range []int64{least + 2, -3, 0, 2, greatest - 2, greatest} {
			l = append(l, cut(t, whole, span(from, last)))
			from = last + 1
		}
		rnd.Shuffle(len(l), func(i, j int) { l[i], l[j] = l[j], l[i] })
		is(t, "shuffled", merged(t, l...), whole)
		is(t, "shuffled, Each", run(each(t, l, all())), run(whole.Points))
	}
}

// P16.3, and P15.6: a head's run is All of one run for each point that was put and each span that was deleted.
func TestAsHeadKeeps(t *testing.T) {
	rnd := rand.New(rand.NewSource(164))
	for range 300 {
		h := head.New()
		var l []api.Run
		for range rnd.Intn(60) {
			if rnd.Intn(3) == 0 {
				s := someSpan(rnd)
				h.Delete("a", s)
				l = append([]api.Run{run(nil, s)}, l...)
				continue
			}
			p := api.Point{T: someOf(rnd, times()...), V: rnd.Uint64()}
			h.Put("a", []api.Point{p})
			l = append([]api.Run{run([]api.Point{p})}, l...)
		}
		is(t, "head", h.Run("a"), merged(t, l...))
		s := someSpan(rnd)
		is(t, "its points", run(slices.Collect(h.Range("a", s))), run(each(t, l, s)))
	}
}

// P16.3, P16.5, P16.6: many points, in few runs and in many.
func TestMany(t *testing.T) {
	const n = 1 << 17
	for _, runs := range []int64{1, 2, 15, 16, 17, 33, 64, 1 << 14} {
		l := make([]api.Run, runs)
		for at := range int64(n) {
			l[at%runs].Points = append(l[at%runs].Points, api.Point{T: at, V: uint64(at)})
			if older := (at + runs/2) % runs; at%3 == 0 && older > at%runs {
				l[older].Points = append(l[older].Points, api.Point{T: at, V: 1})
			}
		}
		for i := range l {
			slices.SortFunc(l[i].Points, func(a, b api.Point) int { return int(a.T - b.T) })
		}
		l = append(l, run(nil, span(0, n)), run(points(5, 1, n+1, 1)))
		var want []api.Point
		for at := range int64(n) {
			want = append(want, api.Point{T: at, V: uint64(at)})
		}
		want = append(want, points(n+1, 1)...)
		is(t, fmt.Sprint("All of ", runs), merged(t, l...), run(want, span(0, n)))
		is(t, fmt.Sprint("Each of ", runs), run(each(t, l, all())), run(want))
		is(t, fmt.Sprint("Seq of ", runs), run(slices.Collect(seq(t, l, span(7, n-7)))), run(want[7:n-6]))
	}
}
