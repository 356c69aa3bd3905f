package store_test

import (
	"slices"
	"strconv"
	"testing"

	"fathom/api"
)

// series tells writes of one point each, to n series from a number on.
func series(from, n int) []api.Write {
	var l []api.Write
	for i := range n {
		l = append(l, wide(set("s", strconv.Itoa(from+i))))
	}
	return l
}

func TestMaxSeries(t *testing.T) {
	p := newPair(t, config(4, 100, 0))
	for i := 0; i < api.MaxSeries; i += api.MaxWrites {
		p.write(t, series(i, api.MaxWrites)...)
	}
	p.stays(t, "one more", p.s.Write([]api.Write{wide(set("x", "1"))}), api.ErrStoreFull)
	p.stays(t, "one more behind", p.s.Write([]api.Write{wide(set("s", "7"), at(1, 1)), wide(set("x", "1"))}), api.ErrStoreFull)
	p.stays(t, "labels first", p.s.Write([]api.Write{wide(set("x", "1")), wide(set("1", "1"))}), api.ErrStoreLabels)
	p.write(t, wide(set("s", "4095"), at(1, 1)))
	p.delete(t, equals("s", "4095"), all())
	p.stays(t, "all spans", p.s.Keep(5), api.ErrStoreFull) // with the one that lies there they are 4,097
	p.flush(t)
	p.compact(t, 0, 1)
	is(t, "all spans", p.s.Keep(5), api.OK)
	p.m.delete(t, nil, span(least, 4))
	p.tells(t)
	_, e := p.s.Delete(equals("s", "9"), span(7, 8))
	p.stays(t, "one span more", e, api.ErrStoreFull)
	n, e := p.s.Delete(equals("s", "none"), span(7, 8))
	is(t, "no span more", n, 0)
	p.stays(t, "no span more", e, api.OK)
	p.reopen(t)
	p.tells(t)
	p.flush(t)
	is(t, "in segments, too", p.s.Keep(6), api.ErrStoreFull)
	p.tells(t)
}

func TestMaxKeys(t *testing.T) {
	p := newPair(t, config(4, 100, 0))
	for i := range api.MaxKeys/api.MaxKey - 1 {
		p.write(t, wide(keyed(t, api.MaxKey, i), at(int64(i), 1)))
	}
	p.write(t, wide(keyed(t, api.MaxKey-20, 99)))
	p.stays(t, "a byte more", p.s.Write([]api.Write{wide(keyed(t, 21, 1))}), api.ErrStoreFull)
	p.stays(t, "more together", p.s.Write([]api.Write{wide(set("a", "1")), wide(keyed(t, 20, 1))}), api.ErrStoreFull)
	p.write(t, wide(keyed(t, 20, 1)), wide(nil, at(1, 1)), wide(keyed(t, 20, 1)))
	p.stays(t, "more", p.s.Write([]api.Write{wide(set("a", "1"))}), api.ErrStoreFull)
	p.reopen(t)
	p.flush(t)
	p.reopen(t)
	p.tells(t)
}

// block tells points at n times from one on.
func block(from, n int) []api.Point {
	l := points(n)
	for i := range l {
		l[i] = at(int64(from+i), float64(i%9))
	}
	return l
}

func TestMaxPoints(t *testing.T) {
	p := newPair(t, config(api.MaxBlock, api.MaxPoints-1, 0))
	a := set("a", "1")
	for i := 0; i < api.MaxPoints-api.MaxBatch; i += api.MaxBatch {
		p.write(t, wide(a, block(i, api.MaxBatch)...))
	}
	last := block(api.MaxPoints-api.MaxBatch, api.MaxBatch)
	p.write(t, wide(a, last[:api.MaxBatch-2]...))
	is(t, "all in the head", p.s.Head(), api.MaxPoints-2)
	two := []api.Point{at(0, 1), at(1, 2)}
	p.stays(t, "three", p.s.Write([]api.Write{wide(a, at(0, 1)), wide(a, two...)}), api.ErrStoreFull)
	p.write(t, wide(a, two...))
	is(t, "two at times that were there", p.s.Head(), api.MaxPoints-2)
	p.write(t, wide(a, last[api.MaxBatch-2]))
	is(t, "flushed", p.s.Head(), 0)
	p.write(t, wide(a, at(0, 5)))
	p.stays(t, "hidden ones lie there, too", p.s.Write([]api.Write{wide(a, at(0, 6))}), api.ErrStoreFull)
	p.write(t, wide(a))
	p.reopen(t)
	p.flush(t)
	p.compact(t, 0, 2)
	p.write(t, wide(a, last[api.MaxBatch-1]))
	p.stays(t, "full", p.s.Write([]api.Write{wide(a, at(0, 6))}), api.ErrStoreFull)
	p.reopen(t)
	p.tells(t)
}

func TestMaxSegs(t *testing.T) {
	p := newPair(t, config(4, 1, 0))
	for i := range api.MaxSegs {
		p.write(t, wide(set("a", "1"), at(int64(i), 1)))
	}
	is(t, "segments", len(p.s.Segments()), api.MaxSegs)
	p.stays(t, "nothing to flush", p.s.Flush(), api.OK)
	p.write(t, wide(set("a", "1"), at(99, 1)))
	is(t, "not flushed", p.s.Head(), 1)
	p.stays(t, "Flush", p.s.Flush(), api.ErrStoreFull)
	p.reopen(t)
	p.tells(t)
	p.compact(t, 3, 5)
	p.write(t, wide(set("a", "1"), at(98, 1)))
	is(t, "flushed", p.s.Head(), 0)
	p.compact(t, 0, api.MaxSegs)
	p.tells(t)
}

// TestMaxLog: deletions flush nothing, so the journal may be filled by them; from its half on a write has it flushed.
func TestMaxLog(t *testing.T) {
	p := newPair(t, config(4, api.MaxPoints, 0))
	const n = 2048
	for i := 0; i < n; i += api.MaxWrites {
		p.write(t, series(i, api.MaxWrites)...)
	}
	size := len(laidJournal(p.m.records...))
	ones := laidDeletion(span(0, 0), make([]int, n)...)
	step := len(laidJournal(ones)) - len(laidJournal())
	for size+step <= api.MaxLog {
		k, e := p.s.Delete(nil, span(0, 0))
		is(t, "Delete", k, n)
		is(t, "Delete", e, api.OK)
		p.m.delete(t, nil, span(0, 0))
		size += step
	}
	p.stays(t, "Keep", p.s.Keep(1), api.ErrStoreFull)
	_, e := p.s.Delete(nil, span(0, 0))
	p.stays(t, "Delete", e, api.ErrStoreFull)
	const room = 500 // bytes that are left for a write
	for size+room < api.MaxLog {
		words := []string{"0", "1", "2", "3", "4", "5", "6", "7"}
		p.delete(t, []api.Matcher{{Kind: api.MatchOneOf, Name: "s", Words: words}}, span(0, 0))
		size += len(laidJournal(laidDeletion(span(0, 0), make([]int, len(words))...))) - len(laidJournal())
	}
	is(t, "the file", len(laidJournal(p.m.records...)), size)
	p.reopen(t)
	left := api.MaxLog - size - (len(laidJournal([][]byte{{1}, laidWrite("", 1, nil)})) - len(laidJournal()))
	p.stays(t, "a byte more", p.s.Write([]api.Write{wide(keyed(t, left+1, 0))}), api.ErrStoreFull)
	p.stays(t, "far more", p.s.Write([]api.Write{wide(set("s", "7"), block(0, 300)...)}), api.ErrStoreFull)
	p.stays(t, "an empty batch", p.s.Write(nil), api.OK)
	p.write(t, wide(keyed(t, left, 0)))
	is(t, "flushed", p.s.Segments()[0].Spans, n)
	p.tells(t)
}

// TestHalfLog: a write behind which the journal has half of what it may have is flushed.
func TestHalfLog(t *testing.T) {
	p := newPair(t, config(api.MaxBlock, api.MaxPoints, 0))
	l := wide(set("a", "1"), block(0, api.MaxBatch)...)
	for len(p.s.Segments()) == 0 {
		p.write(t, l)
		is(t, "as the model", len(p.s.Segments()), len(p.m.parts))
	}
	p.tells(t)
	var sizes []int
	for range 40 {
		p.write(t, l)
		sizes = append(sizes, len(laidJournal(p.m.records...)))
	}
	is(t, "below the half", slices.Max(sizes) < api.MaxLog/2, true)
	p.tells(t)
}
