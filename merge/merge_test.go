package merge_test

import (
	"fmt"
	"slices"
	"testing"

	"fathom/api"
	"fathom/merge"
)

// The chapter's examples.
func TestExamples(t *testing.T) {
	r := two(t, newer(), older())
	same(t, "2", text(r), "1:1 5:2 6:6 2..4 6..7 ")
	same(t, "3", text(two(t, run(nil, span(0, 9)), run(points(3, 3)))), "0..9 ")
	same(t, "3", text(two(t, run(points(3, 3)), run(nil, span(0, 9)))), "3:3 0..9 ")
	same(t, "5", text(cut(t, r, span(5, 6))), "5:2 6:6 6..6 ")
	l := []api.Run{newer(), older()}
	same(t, "5", text(run(slices.Collect(seq(t, l, span(0, 9))))), "1:1 5:2 6:6 ")
	n, e := merge.Each(l, span(0, 9), func(p api.Point) bool { return p.T != 5 })
	same(t, "5", fmt.Sprint(n, e), "2 0")
}

// P16.1: times that rise, spans that may be, and a time between two of them that is in none.
func TestNormal(t *testing.T) {
	for i, c := range []struct {
		r    api.Run
		want bool
	}{
		{api.Run{}, true}, {run([]api.Point{}, []api.Span{}...), true}, {newer(), true}, {older(), true},
		{run(points(1, 5, 2, 5)), true}, {run(points(2, 5, 1, 5)), false}, {run(points(1, 5, 1, 5)), false}, {run(points(1, 5, 2, 5, 2, 6)), false},
		{run(points(least, 0, least+1, 0, -1, 0, 0, 0, greatest-1, 0, greatest, 0)), true}, {run(points(greatest, 0, least, 0)), false},
		{run(nil, span(1, 1)), true}, {run(nil, span(2, 1)), false}, {run(nil, span(greatest, least)), false}, {run(nil, all()), true},
		{run(nil, span(1, 2), span(3, 4)), false}, {run(nil, span(1, 2), span(4, 4)), true}, {run(nil, span(4, 4), span(1, 2)), false},
		{run(nil, span(1, 2), span(2, 4)), false}, {run(nil, span(1, 9), span(2, 3)), false}, {run(nil, span(1, 2), span(1, 2)), false},
		{run(nil, span(1, 2), span(4, 3)), false}, {run(nil, span(1, 2), span(4, 4), span(5, 6)), false}, {run(nil, span(1, 2), span(4, 4), span(6, 6)), true},
		{run(nil, span(least, least), span(least+2, 0)), true}, {run(nil, span(least, least), span(least+1, 0)), false},
		{run(nil, span(0, greatest-2), span(greatest, greatest)), true}, {run(nil, span(0, greatest-1), span(greatest, greatest)), false},
		{run(nil, span(0, greatest), span(least, least)), false}, {run(nil, span(0, greatest), span(greatest, greatest)), false},
		{run(points(5, 5), span(1, 2), span(3, 4)), false}, {run(points(5, 5, 5, 5), span(1, 2)), false}, {run(points(1, 1, 2, 2), span(0, 9)), true},
	} {
		if merge.Normal(c.r) != c.want {
			t.Errorf("%d: Normal(%s) isn't %t", i, text(c.r), c.want)
		}
	}
	for _, r := range bad() {
		if merge.Normal(r) {
			t.Errorf("Normal(%s)", text(r))
		}
	}
}

// P16.1: the times of all, in normal form; at the ends of time nothing wraps.
func TestSpans(t *testing.T) {
	for _, c := range []struct {
		l    []api.Span
		want string
	}{
		{nil, ""}, {[]api.Span{}, ""},
		{[]api.Span{span(5, 6), span(1, 2), span(3, 3)}, "1..3 5..6 "},
		{[]api.Span{span(1, 2), span(3, 4)}, "1..4 "},
		{[]api.Span{span(3, 4), span(1, 2)}, "1..4 "},
		{[]api.Span{span(1, 9), span(3, 4), span(5, 6)}, "1..9 "},
		{[]api.Span{span(1, 9), span(3, 4), span(10, 11), span(13, 13)}, "1..11 13..13 "},
		{[]api.Span{span(3, 3), span(3, 9), span(3, 5)}, "3..9 "},
		{[]api.Span{span(3, 3), span(3, 3)}, "3..3 "},
		{[]api.Span{span(9, 9), span(7, 7), span(5, 5), span(8, 8)}, "5..5 7..9 "},
		{[]api.Span{span(0, greatest), span(greatest, greatest)}, fmt.Sprintf("0..%d ", int64(greatest))},
		{[]api.Span{span(greatest, greatest), span(0, greatest)}, fmt.Sprintf("0..%d ", int64(greatest))},
		{[]api.Span{span(greatest, greatest), span(0, greatest-1)}, fmt.Sprintf("0..%d ", int64(greatest))},
		{[]api.Span{span(0, greatest), span(least, least)}, fmt.Sprintf("%d..%d 0..%d ", int64(least), int64(least), int64(greatest))},
		{[]api.Span{span(0, greatest), span(least, -1)}, fmt.Sprintf("%d..%d ", int64(least), int64(greatest))},
		{[]api.Span{span(0, greatest), span(least, -2)}, fmt.Sprintf("%d..-2 0..%d ", int64(least), int64(greatest))},
		{[]api.Span{all(), all(), span(greatest, greatest), span(least, least)}, fmt.Sprintf("%d..%d ", int64(least), int64(greatest))},
	} {
		l, e := merge.Spans(c.l)
		same(t, fmt.Sprint("Spans of ", c.l), fmt.Sprint(text(run(nil, l...)), e), c.want+"0")
	}
	for _, l := range [][]api.Span{
		{span(2, 1)}, {span(1, 2), span(2, 1)}, {span(2, 1), span(1, 2)}, {span(0, 9), span(5, 4), span(3, 3)}, {span(greatest, least)}, {span(least+1, least)}, {all(), span(greatest, greatest-1)},
	} {
		got, e := merge.Spans(l)
		if len(got) != 0 || e != api.ErrMergeSpan {
			t.Errorf("Spans of %v: %v, %d", l, got, e)
		}
	}
}

// P16.2: a point stands at the ends of what hides it and just beyond.
func TestTwo(t *testing.T) {
	e := int64(greatest)
	for _, c := range []struct {
		newer, older api.Run
		want         string
	}{
		{api.Run{}, api.Run{}, ""},
		{run(nil, span(2, 4)), run(points(1, 1, 2, 2, 3, 3, 4, 4, 5, 5)), "1:1 5:5 2..4 "},
		{run(points(2, 9, 3, 9), span(2, 4)), run(points(1, 1, 2, 2, 3, 3, 4, 4, 5, 5)), "1:1 2:9 3:9 5:5 2..4 "},
		{run(nil, span(2, 2), span(4, 4)), run(points(1, 1, 2, 2, 3, 3, 4, 4, 5, 5), span(3, 3)), "1:1 3:3 5:5 2..4 "},
		{run(points(3, 9)), run(points(3, 1), span(0, 9)), "3:9 0..9 "},
		{run(points(3, 0)), run(points(3, 1, 4, 1)), "3:0 4:1 "},
		{run(nil, span(e, e)), run(points(e-1, 1, e, 2)), fmt.Sprintf("%d:1 %d..%d ", e-1, e, e)},
		{run(nil, span(least, least)), run(points(least, 1, least+1, 2)), fmt.Sprintf("%d:2 %d..%d ", int64(least+1), int64(least), int64(least))},
		{run(nil, all()), run(points(least, 1, 0, 2, e, 3)), fmt.Sprintf("%d..%d ", int64(least), e)},
		{run(points(least, 1, 0, 2, e, 3)), run(points(5, 5), all()), fmt.Sprintf("%d:1 0:2 5:5 %d:3 %d..%d ", int64(least), e, int64(least), e)},
		{run(points(0, 1<<62, 1, -1)), run(points(0, 1)), "0:4611686018427387904 1:18446744073709551615 "},
	} {
		same(t, text(c.newer)+"over "+text(c.older), text(two(t, c.newer, c.older)), c.want)
	}
}

// P16.3: of no runs an empty one; a newer one's spans hide what all older ones have.
func TestAll(t *testing.T) {
	for _, c := range []struct {
		l    []api.Run
		want string
	}{
		{nil, ""}, {[]api.Run{}, ""}, {[]api.Run{{}}, ""}, {[]api.Run{{}, {}, {}}, ""},
		{[]api.Run{newer()}, text(newer())},
		{[]api.Run{newer(), older(), run(points(2, 9, 4, 9, 5, 9, 6, 9, 7, 9, 8, 9), span(9, 9))}, "1:1 5:2 6:6 8:9 2..4 6..7 9..9 "},
		{[]api.Run{run(nil, span(1, 1)), run(points(2, 2)), run(points(1, 3, 2, 3, 3, 3)), run(points(1, 4))}, "2:2 3:3 1..1 "},
		{[]api.Run{run(points(1, 1)), run(nil, span(0, 2)), run(points(0, 3, 1, 3, 2, 3, 3, 3))}, "1:1 3:3 0..2 "},
		{[]api.Run{run(nil, span(5, 5)), run(nil, span(1, 1)), run(nil, span(3, 3)), run(nil, span(2, 2))}, "1..3 5..5 "},
	} {
		same(t, fmt.Sprint("All of ", c.l), text(merged(t, c.l...)), c.want)
	}
}

// P16.4: the points and the times of the spans that lie in it, both ends in.
func TestCut(t *testing.T) {
	r := run(points(least, 1, 1, 2, 3, 3, 5, 4, greatest, 5), span(least, least+1), span(1, 3), span(5, 5), span(8, greatest))
	for _, c := range []struct {
		s    api.Span
		want string
	}{
		{all(), text(r)},
		{span(1, 5), "1:2 3:3 5:4 1..3 5..5 "},
		{span(2, 4), "3:3 2..3 "},
		{span(3, 3), "3:3 3..3 "},
		{span(4, 4), ""},
		{span(6, 7), ""},
		{span(6, 8), "8..8 "},
		{span(9, 12), "9..12 "},
		{span(least, least), fmt.Sprintf("%d:1 %d..%d ", int64(least), int64(least), int64(least))},
		{span(least+1, 0), fmt.Sprintf("%d..%d ", int64(least+1), int64(least+1))},
		{span(greatest, greatest), fmt.Sprintf("%d:5 %d..%d ", int64(greatest), int64(greatest), int64(greatest))},
	} {
		same(t, fmt.Sprint("Cut to ", c.s), text(cut(t, r, c.s)), c.want)
	}
	is(t, "Cut of an empty run", cut(t, api.Run{}, span(1, 5)), api.Run{})
}

// refusesAll: each call that is given these runs and this span tells that error, and nothing beside it; f is not called.
func refusesAll(t *testing.T, l []api.Run, s api.Span, want api.Errno) {
	t.Helper()
	if x, e := merge.Seq(l, s); x != nil || e != want {
		t.Errorf("Seq of %v, %v: %t, %d", l, s, x == nil, e)
	}
	for _, f := range []func(api.Point) bool{nil, func(p api.Point) bool { t.Errorf("called with %v", p); return true }} {
		if n, e := merge.Each(l, s, f); n != 0 || e != want {
			t.Errorf("Each of %v, %v: %d, %d", l, s, n, e)
		}
	}
	if len(l) != 1 {
		return
	}
	if r, e := merge.Cut(l[0], s); !empty(r) || e != want {
		t.Errorf("Cut of %v to %v: %v, %d", l[0], s, r, e)
	}
}

func empty(r api.Run) bool { return len(r.Points) == 0 && len(r.Spans) == 0 }

// P16.2 to P16.6: runs that are none, at each place; they are told ahead of a span that may not be.
func TestRunsThatAreNone(t *testing.T) {
	good := newer()
	for _, x := range bad() {
		for _, s := range []api.Span{span(0, 9), all(), span(100, 200), span(3, 2), span(greatest, least)} {
			for _, l := range [][]api.Run{{x}, {x, good}, {good, x}, {good, good, x}, {good, x, x, good}, {{}, x}} {
				refusesAll(t, l, s, api.ErrMergeRun)
			}
		}
		for _, l := range [][]api.Run{{x}, {x, good}, {good, x}, {x, x}, {good, x, good}, {good, good, good, good, x}} {
			if r, e := merge.All(l); !empty(r) || e != api.ErrMergeRun {
				t.Errorf("All of %v: %v, %d", l, r, e)
			}
		}
		for _, l := range [][]api.Run{{x, good}, {good, x}, {x, x}, {x, {}}, {{}, x}} {
			if r, e := merge.Two(l[0], l[1]); !empty(r) || e != api.ErrMergeRun {
				t.Errorf("Two of %v: %v, %d", l, r, e)
			}
		}
	}
}

// P16.4 to P16.6: spans that may not be, also of runs that have nothing there, and of none.
func TestSpansThatMayNotBe(t *testing.T) {
	for _, s := range []api.Span{span(3, 2), span(greatest, least), span(0, least), span(greatest, 0), span(greatest, greatest-1), span(least+1, least)} {
		for _, l := range [][]api.Run{nil, {}, {{}}, {newer()}, {newer(), older()}} {
			refusesAll(t, l, s, api.ErrMergeSpan)
		}
	}
}
