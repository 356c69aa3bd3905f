package head_test

import (
	"fmt"
	"maps"
	"math/rand"
	"slices"
	"strings"
	"testing"

	"fathom/api"
	"fathom/head"
)

// The chapter's examples, one behind the other.
func TestExamples(t *testing.T) {
	h := head.New()
	h.Put("a", points(3, 100, 1, 101, 3, 102))
	runs(t, h, "a", "1:101 3:102 ")
	same(t, "Points", h.Points(), 2)
	deletes(t, h, "a", 2, 9)
	runs(t, h, "a", "1:101 2..9 ")
	h.Put("a", points(5, 103))
	runs(t, h, "a", "1:101 5:103 2..9 ")
	deletes(t, h, "a", 10, 10)
	runs(t, h, "a", "1:101 5:103 2..10 ")
	deletes(t, h, "a", 12, 12)
	runs(t, h, "a", "1:101 5:103 2..10 12..12 ")
	same(t, "Delete", h.Delete("b", span(5, 4)), api.ErrHeadSpan)
	same(t, "Keys", h.Keys(), "[a]")
	deletes(t, h, "b", 0, 0)
	same(t, "Keys", h.Keys(), "[a b]")
	h.Put("c", nil)
	same(t, "Keys", h.Keys(), "[a b]")
	h.Forget("b")
	same(t, "Keys", h.Keys(), "[a]")
	same(t, "Take", held(h.Take()), `"a" 1:101 5:103 2..10 12..12 / `)
	same(t, "behind Take", told(h), told(head.New()))
	runs(t, h, "a", "")
}

// P15.1, P15.3 to P15.5: of a new head, and of a key that is not there.
func TestNone(t *testing.T) {
	h := head.New()
	same(t, "New", fmt.Sprint(h.Keys(), h.Points(), h.Spans(), held(h.Take())), "[] 0 0")
	h.Put("a", points(1, 1))
	runs(t, h, "b", "")
	same(t, "Range", collected(h.Range("b", all())), "")
	h.Forget("b")
	same(t, "asked for", h.Keys(), "[a]")
}

// P15.1: of several at one time the last one stands, in one Put or in several; bits are kept as they are.
func TestPutReplaces(t *testing.T) {
	h := head.New()
	h.Put("a", points(5, 1, 5, 2, 4, 3, 5, 4, 4, 5))
	runs(t, h, "a", "4:5 5:4 ")
	h.Put("a", points(6, 1, 4, 6))
	runs(t, h, "a", "4:6 5:4 6:1 ")
	h.Put("a", []api.Point{{T: 5, V: 0x7ff0000000000001}, {T: 4, V: 1 << 63}, {T: 6, V: 0xffffffffffffffff}})
	runs(t, h, "a", "4:9223372036854775808 5:9218868437227405313 6:18446744073709551615 ")
	same(t, "Points", h.Points(), 3)
}

// P15.1: so it is where one Put has many points at few times.
func TestPutManyAtFewTimes(t *testing.T) {
	rnd := rand.New(rand.NewSource(150))
	for range 200 {
		h := head.New()
		var l []api.Point
		last := map[int64]uint64{}
		for n := range uint64(300) {
			p := api.Point{T: rnd.Int63n(20), V: n}
			l = append(l, p)
			last[p.T] = n
		}
		h.Put("a", l)
		want := ""
		for _, at := range slices.Sorted(maps.Keys(last)) {
			want += fmt.Sprintf("%d:%d ", at, last[at])
		}
		runs(t, h, "a", want)
	}
}

// P15.1: points come in any order, each alone or all at once, at the ends of time too.
func TestPutInAnyOrder(t *testing.T) {
	rnd := rand.New(rand.NewSource(151))
	l := times()
	want := ""
	for n, at := range l {
		want += fmt.Sprintf("%d:%d ", at, n)
	}
	for range 200 {
		together, alone, pieces := head.New(), head.New(), head.New()
		var given []api.Point
		for _, n := range rnd.Perm(len(l)) {
			given = append(given, api.Point{T: l[n], V: uint64(n)})
			alone.Put("a", given[len(given)-1:])
		}
		together.Put("a", given)
		for piece := range slices.Chunk(given, 1+rnd.Intn(6)) {
			pieces.Put("a", piece)
		}
		for _, h := range []*head.Head{together, alone, pieces} {
			runs(t, h, "a", want)
		}
	}
}

// P15.1: a point that is put stands also where a span was deleted, and the span stays.
func TestPutIntoSpan(t *testing.T) {
	h := head.New()
	h.Put("a", points(1, 1, 3, 1))
	deletes(t, h, "a", 0, 9)
	runs(t, h, "a", "0..9 ")
	h.Put("a", points(0, 2, 9, 2, 3, 2))
	runs(t, h, "a", "0:2 3:2 9:2 0..9 ")
	deletes(t, h, "a", 3, 3)
	runs(t, h, "a", "0:2 9:2 0..9 ")
}

// P15.2: just the points of the span go, both ends in.
func TestDeleteTakesPoints(t *testing.T) {
	for _, c := range []struct {
		from, last int64
		want       string
	}{
		{3, 5, "2:2 6:6 "}, {4, 4, "2:2 3:3 5:5 6:6 "}, {1, 1, "2:2 3:3 4:4 5:5 6:6 "}, {7, greatest, "2:2 3:3 4:4 5:5 6:6 "},
		{least, 2, "3:3 4:4 5:5 6:6 "}, {6, greatest, "2:2 3:3 4:4 5:5 "}, {least, greatest, ""}, {2, 6, ""},
	} {
		h := head.New()
		h.Put("a", points(2, 2, 3, 3, 4, 4, 5, 5, 6, 6))
		deletes(t, h, "a", c.from, c.last)
		runs(t, h, "a", c.want+fmt.Sprintf("%d..%d ", c.from, c.last))
		same(t, "Points", h.Points(), strings.Count(c.want, ":"))
	}
	h := head.New()
	h.Put("a", points(least, 1, greatest, 2, 0, 3))
	deletes(t, h, "a", least, least)
	deletes(t, h, "a", greatest, greatest)
	runs(t, h, "a", fmt.Sprintf("0:3 %d..%d %d..%d ", int64(least), int64(least), int64(greatest), int64(greatest)))
}

// P15.2: spans that meet or touch become one; those between which a time lies stay two.
func TestSpansInNormalForm(t *testing.T) {
	for _, c := range []struct {
		l    []api.Span
		want string
	}{
		{[]api.Span{span(1, 2), span(3, 4)}, "1..4 "},
		{[]api.Span{span(3, 4), span(1, 2)}, "1..4 "},
		{[]api.Span{span(1, 2), span(4, 4)}, "1..2 4..4 "},
		{[]api.Span{span(4, 4), span(1, 2)}, "1..2 4..4 "},
		{[]api.Span{span(1, 2), span(4, 4), span(3, 3)}, "1..4 "},
		{[]api.Span{span(1, 9), span(3, 4)}, "1..9 "},
		{[]api.Span{span(3, 4), span(1, 9)}, "1..9 "},
		{[]api.Span{span(1, 2), span(5, 6), span(9, 10), span(2, 9)}, "1..10 "},
		{[]api.Span{span(1, 2), span(5, 6), span(9, 10), span(4, 7)}, "1..2 4..7 9..10 "},
		{[]api.Span{span(1, 2), span(5, 6), span(9, 10), span(3, 7)}, "1..7 9..10 "},
		{[]api.Span{span(1, 2), span(5, 6), span(9, 10), span(4, 8)}, "1..2 4..10 "},
		{[]api.Span{span(greatest, greatest), span(5, greatest-1)}, fmt.Sprintf("5..%d ", int64(greatest))},
		{[]api.Span{span(greatest, greatest), span(5, greatest-2)}, fmt.Sprintf("5..%d %d..%d ", int64(greatest-2), int64(greatest), int64(greatest))},
		{[]api.Span{span(least, least), span(least+1, 5)}, fmt.Sprintf("%d..5 ", int64(least))},
		{[]api.Span{span(least, least), span(least+2, 5)}, fmt.Sprintf("%d..%d %d..5 ", int64(least), int64(least), int64(least+2))},
		{[]api.Span{span(least, least), span(greatest, greatest), span(0, 0), all()}, fmt.Sprintf("%d..%d ", int64(least), int64(greatest))},
		{[]api.Span{all(), span(least, least), span(greatest, greatest), span(0, 0)}, fmt.Sprintf("%d..%d ", int64(least), int64(greatest))},
	} {
		h := head.New()
		for _, s := range c.l {
			deletes(t, h, "a", s.From, s.Last)
		}
		runs(t, h, "a", c.want)
		same(t, "Spans", h.Spans(), strings.Count(c.want, ".."))
	}
}

// P15.2: a span that ends ahead of its beginning is refused, and nothing has changed.
func TestSpansThatMayNotBe(t *testing.T) {
	h := head.New()
	h.Put("a", points(least, 1, 4, 1, 5, 1, greatest, 1))
	deletes(t, h, "a", 7, 8)
	before := told(h)
	for _, key := range []string{"a", "b"} {
		for _, s := range []api.Span{span(5, 4), span(greatest, least), span(0, least), span(greatest, 0), span(greatest, greatest-1), span(least+1, least), span(9, 6)} {
			same(t, "Delete", h.Delete(key, s), api.ErrHeadSpan)
			same(t, "Range", collected(h.Range(key, s)), "")
		}
	}
	same(t, "what stands", told(h), before)
}

// P15.2: all goes that is under a key, and nothing else; the key may be used again.
func TestForget(t *testing.T) {
	h := head.New()
	h.Put("a", points(1, 1))
	deletes(t, h, "a", 5, 6)
	h.Put("b", points(2, 2))
	h.Forget("a")
	runs(t, h, "a", "")
	same(t, "what is left", fmt.Sprint(h.Keys(), h.Points(), h.Spans()), "[b] 1 0")
	h.Put("a", points(7, 7))
	runs(t, h, "a", "7:7 ")
	h.Forget("a")
	h.Forget("a")
	same(t, "what is left", fmt.Sprint(h.Keys(), h.Points(), h.Spans()), "[b] 1 0")
}

// P15.4: just the points of the span, both ends in, by their times.
func TestRange(t *testing.T) {
	h := head.New()
	h.Put("a", points(greatest, 9, 5, 5, 1, 1, least, 0, 3, 3))
	h.Put("b", points(4, 4))
	for _, c := range []struct {
		s    api.Span
		want string
	}{
		{span(1, 5), "1:1 3:3 5:5 "}, {span(2, 4), "3:3 "}, {span(3, 3), "3:3 "}, {span(4, 4), ""}, {span(0, 4), "1:1 3:3 "},
		{span(6, greatest-1), ""}, {span(greatest, greatest), fmt.Sprintf("%d:9 ", int64(greatest))},
		{span(least, least), fmt.Sprintf("%d:0 ", int64(least))},
		{all(), fmt.Sprintf("%d:0 1:1 3:3 5:5 %d:9 ", int64(least), int64(greatest))},
	} {
		same(t, fmt.Sprint("Range of ", c.s), collected(h.Range("a", c.s)), c.want)
	}
}

// P15.4: what was asked for may be ranged over again, left early, and ranged over within itself; it tells what stood then, whatever is done meanwhile.
func TestRangeStays(t *testing.T) {
	h := head.New()
	h.Put("a", points(1, 1, 2, 2, 3, 3, 4, 4))
	seq := h.Range("a", span(2, 9))
	for _, change := range []func(){
		func() {},
		func() { h.Put("a", points(2, 20, 3, 30, 1, 10)) },
		func() { h.Put("a", points(0, 0, 5, 5)) },
		func() { h.Delete("a", span(3, 3)) },
		func() { h.Forget("a") },
		func() { h.Put("a", points(3, 33)) },
		func() { h.Take() },
		func() { h.Put("a", points(2, 7, 3, 7, 4, 7)) },
	} {
		change()
		same(t, "again", collected(seq), "2:2 3:3 4:4 ")
		n := 0
		for p := range seq {
			n++
			if p.T == 3 {
				break
			}
		}
		same(t, "left early", n, 2)
	}
	s := ""
	for p := range seq {
		h.Put("a", points(p.T, 100, p.T+1, 100))
		s += text(api.Run{Points: []api.Point{p}}) + collected(seq)
	}
	same(t, "within itself", s, "2:2 2:2 3:3 4:4 3:3 2:2 3:3 4:4 4:4 2:2 3:3 4:4 ")
	runs(t, h, "a", "2:100 3:100 4:100 5:100 ")
	seq(nil)
}

// P15.5: a key stands there while it has a point or a span, and keys stand in order, byte by byte.
func TestKeys(t *testing.T) {
	h := head.New()
	for _, key := range []string{"b", "\xff", "ab", "", "\u00e9", "a\x00", "a", "B", "\x00"} {
		h.Put(key, points(1, 1))
	}
	same(t, "Keys", quoted(h.Keys()), quoted([]string{"", "\x00", "B", "a", "a\x00", "ab", "b", "\u00e9", "\xff"}))
	h = head.New()
	h.Put("a", []api.Point{})
	h.Delete("b", span(1, 0))
	same(t, "nothing laid", h.Keys(), "[]")
	h.Put("a", points(1, 1))
	deletes(t, h, "a", 1, 1)
	same(t, "a span alone", fmt.Sprint(h.Keys(), h.Points(), h.Spans()), "[a] 0 1")
	h.Put("a", nil)
	h.Put("b", points(1, 1))
	same(t, "a point alone", fmt.Sprint(h.Keys(), h.Points(), h.Spans()), "[a b] 1 1")
}

// quoted tells texts so that all their bytes are seen.
func quoted(l []string) string { return fmt.Sprintf("%q", l) }

// P15.5: Points and Spans count those of all keys.
func TestCounts(t *testing.T) {
	h := head.New()
	for n, key := range keys() {
		for k := range int64(n) {
			h.Put(key, points(k, 0, k, 1))
			deletes(t, h, key, 100+3*k, 101+3*k)
			deletes(t, h, key, 100+3*k, 100+3*k)
		}
	}
	same(t, "counts", fmt.Sprint(h.Points(), h.Spans()), "15 15")
}

// P15.5: Take tells all keys with their runs, in order; behind it the head is as a new one, and may be used as one.
func TestTake(t *testing.T) {
	h := head.New()
	h.Put("b", points(2, 2, 1, 1))
	deletes(t, h, "c", 5, 6)
	h.Put("", points(7, 7))
	deletes(t, h, "b", 2, 3)
	same(t, "Take", held(h.Take()), `"" 7:7 / "b" 1:1 2..3 / "c" 5..6 / `)
	same(t, "behind it", told(h), told(head.New()))
	same(t, "again", held(h.Take()), "")
	h.Put("b", points(9, 9))
	same(t, "the next", held(h.Take()), `"b" 9:9 / `)
}
