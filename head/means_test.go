package head_test

import (
	"fmt"
	"iter"
	"math"
	"math/rand"
	"slices"
	"testing"

	"fathom/api"
	"fathom/head"
)

const (
	least    = math.MinInt64
	greatest = math.MaxInt64
)

func span(from, last int64) api.Span { return api.Span{From: from, Last: last} }

func all() api.Span { return span(least, greatest) }

// points tells points of times and values, one behind the other.
func points(l ...int64) []api.Point {
	var out []api.Point
	for i := 0; i+1 < len(l); i += 2 {
		out = append(out, api.Point{T: l[i], V: uint64(l[i+1])})
	}
	return out
}

// text tells a run by a text in which nil and empty are one.
func text(r api.Run) string {
	s := ""
	for _, p := range r.Points {
		s += fmt.Sprintf("%d:%d ", p.T, p.V)
	}
	for _, x := range r.Spans {
		s += fmt.Sprintf("%d..%d ", x.From, x.Last)
	}
	return s
}

// held tells likewise of all that was taken.
func held(l []api.Held) string {
	s := ""
	for _, x := range l {
		s += fmt.Sprintf("%q %s/ ", x.Key, text(x.Run))
	}
	return s
}

// told tells all that a head tells of itself.
func told(h *head.Head) string {
	s := fmt.Sprint(h.Points(), h.Spans(), " ")
	for _, key := range h.Keys() {
		s += fmt.Sprintf("%q %s| %v / ", key, text(h.Run(key)), slices.Collect(h.Range(key, all())))
	}
	return s
}

// same: two things have one text.
func same(t *testing.T, what string, got, want any) {
	t.Helper()
	if fmt.Sprint(got) != fmt.Sprint(want) {
		t.Errorf("%s: %.400v, want %.400v", what, got, want)
	}
}

// runs: under the key stands that.
func runs(t *testing.T, h *head.Head, key, want string) {
	t.Helper()
	same(t, "Run("+key+")", text(h.Run(key)), want)
}

// deletes: the span may be deleted.
func deletes(t *testing.T, h *head.Head, key string, from, last int64) {
	t.Helper()
	same(t, "Delete", h.Delete(key, span(from, last)), api.OK)
}

// collected tells what is ranged over.
func collected(seq iter.Seq[api.Point]) string { return text(api.Run{Points: slices.Collect(seq)}) }

func someOf[A any](rnd *rand.Rand, l ...A) A { return l[rnd.Intn(len(l))] }

// times: few of them, so that they meet; those at the ends too.
func times() []int64 {
	l := []int64{least, least + 1, least + 2, least + 4}
	for t := int64(-6); t <= 6; t++ {
		l = append(l, t)
	}
	return append(l, greatest-4, greatest-2, greatest-1, greatest)
}

func someTime(rnd *rand.Rand) int64 { return someOf(rnd, times()...) }

// someSpan tells a span that may be, mostly a short one.
func someSpan(rnd *rand.Rand) api.Span {
	l := times()
	from := rnd.Intn(len(l))
	last := from + rnd.Intn(3)
	if rnd.Intn(10) == 0 {
		last = from + rnd.Intn(len(l))
	}
	return span(l[from], l[min(last, len(l)-1)])
}

// somePoints tells points in any order, some at the same times, with all kinds of bits.
func somePoints(rnd *rand.Rand) []api.Point {
	var l []api.Point
	for range rnd.Intn(5) {
		l = append(l, api.Point{T: someTime(rnd), V: someOf(rnd, rnd.Uint64(), 1<<63, 0, 0x7ff0000000000001, uint64(rnd.Intn(9)))})
	}
	return l
}

func keys() []string { return []string{"", "a", "ab", "b", "\x00", "\xff"} }

// some tells a head with anything under any keys.
func some(rnd *rand.Rand) *head.Head {
	h := head.New()
	for range rnd.Intn(40) {
		key := someOf(rnd, keys()...)
		if rnd.Intn(3) == 0 {
			h.Delete(key, someSpan(rnd))
		} else {
			h.Put(key, somePoints(rnd))
		}
	}
	return h
}
