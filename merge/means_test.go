package merge_test

import (
	"fmt"
	"iter"
	"math"
	"math/rand"
	"slices"
	"testing"

	"fathom/api"
	"fathom/merge"
)

const (
	least    = math.MinInt64
	greatest = math.MaxInt64
)

func span(from, last int64) api.Span { return api.Span{From: from, Last: last} }

func all() api.Span { return span(least, greatest) }

// points tells points of times and values, one behind the other.
func points(l ...int64) []api.Point {
	var out []api.Point
	for i := 0; i+1 < len(l); i += 2 {
		out = append(out, api.Point{T: l[i], V: uint64(l[i+1])})
	}
	return out
}

func run(l []api.Point, spans ...api.Span) api.Run { return api.Run{Points: l, Spans: spans} }

// newer, older: the chapter's, a = 1, b = 2, x = 3, y = 4, z = 5, w = 6.
func newer() api.Run { return run(points(1, 1, 5, 2), span(2, 4)) }
func older() api.Run { return run(points(1, 3, 2, 4, 3, 5, 6, 6), span(6, 7)) }

// bad tells runs that are none.
func bad() []api.Run {
	return []api.Run{
		run(points(2, 0, 1, 0)), run(points(1, 0, 1, 0)), run(nil, span(1, 2), span(3, 4)), run(nil, span(3, 2)),
		run(points(1, 1), span(5, 6), span(1, 2)), run(nil, span(1, greatest), span(least, 0)),
	}
}

// equal: two runs are one, nil and empty lists too.
func equal(a, b api.Run) bool {
	return slices.Equal(a.Points, b.Points) && slices.Equal(a.Spans, b.Spans)
}

// text tells a run by a text in which nil and empty are one.
func text(r api.Run) string {
	s := ""
	for _, p := range r.Points {
		s += fmt.Sprintf("%d:%d ", p.T, p.V)
	}
	for _, x := range r.Spans {
		s += fmt.Sprintf("%d..%d ", x.From, x.Last)
	}
	return s
}

// same: two things have one text.
func same(t *testing.T, what string, got, want any) {
	t.Helper()
	if fmt.Sprint(got) != fmt.Sprint(want) {
		t.Errorf("%s: %.400v, want %.400v", what, got, want)
	}
}

// is: these are one run.
func is(t *testing.T, what string, got, want api.Run) {
	t.Helper()
	if !equal(got, want) {
		t.Fatalf("%s: %.400s, want %.400s", what, text(got), text(want))
	}
}

// two, merged, cut, seq, each: what the calls tell, where they may not refuse.
func two(t *testing.T, a, b api.Run) api.Run {
	t.Helper()
	r, e := merge.Two(a, b)
	if e != api.OK {
		t.Fatalf("Two(%s, %s): %d", text(a), text(b), e)
	}
	return r
}

func merged(t *testing.T, l ...api.Run) api.Run {
	t.Helper()
	r, e := merge.All(l)
	if e != api.OK {
		t.Fatalf("All of %d: %d", len(l), e)
	}
	return r
}

func cut(t *testing.T, r api.Run, s api.Span) api.Run {
	t.Helper()
	r, e := merge.Cut(r, s)
	if e != api.OK {
		t.Fatalf("Cut to %v: %d", s, e)
	}
	return r
}

func seq(t *testing.T, l []api.Run, s api.Span) iter.Seq[api.Point] {
	t.Helper()
	x, e := merge.Seq(l, s)
	if e != api.OK || x == nil {
		t.Fatalf("Seq of %d, %v: %d", len(l), s, e)
	}
	return x
}

func each(t *testing.T, l []api.Run, s api.Span) []api.Point {
	t.Helper()
	var out []api.Point
	n, e := merge.Each(l, s, func(p api.Point) bool {
		out = append(out, p)
		return true
	})
	if e != api.OK || n != len(out) {
		t.Fatalf("Each of %d, %v: %d, %d, %d points", len(l), s, n, e, len(out))
	}
	return out
}

func someOf[A any](rnd *rand.Rand, l ...A) A { return l[rnd.Intn(len(l))] }

// times: few of them, so that they meet; those at the ends too.
func times() []int64 {
	l := []int64{least, least + 1, least + 2, least + 4}
	for t := int64(-6); t <= 6; t++ {
		l = append(l, t)
	}
	return append(l, greatest-4, greatest-2, greatest-1, greatest)
}

// someSpan tells a span that may be, from one of the times to another one.
func someSpan(rnd *rand.Rand) api.Span {
	l := times()
	from := rnd.Intn(len(l))
	return span(l[from], l[from+rnd.Intn(len(l)-from)])
}

// someRun tells a run, with all kinds of bits.
func someRun(rnd *rand.Rand) api.Run {
	var r api.Run
	for _, t := range times() {
		if rnd.Intn(4) == 0 {
			r.Points = append(r.Points, api.Point{T: t, V: someOf(rnd, rnd.Uint64(), 1<<63, 0, 0x7ff0000000000001, uint64(rnd.Intn(9)))})
		}
	}
	l := times()
	for at := rnd.Intn(8); at < len(l); at += 1 + rnd.Intn(9) {
		last := min(at+rnd.Intn(3), len(l)-1)
		s := span(l[at], l[last])
		if n := len(r.Spans); n == 0 || r.Spans[n-1].Last < s.From && r.Spans[n-1].Last+1 < s.From {
			r.Spans = append(r.Spans, s)
		}
		at = last
	}
	return r
}

func someRuns(rnd *rand.Rand, most int) []api.Run {
	var l []api.Run
	for range rnd.Intn(most + 1) {
		l = append(l, someRun(rnd))
	}
	return l
}
