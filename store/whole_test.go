package store_test

import (
	"math"
	"math/rand"
	"slices"
	"strconv"
	"testing"

	"fathom/api"
	"fathom/disk"
	"fathom/roll"
	"fathom/store"
)

// pair is a store and its model, on one disk.
type pair struct {
	d *disk.Disk
	s *store.Store
	m *model
}

func newPair(t *testing.T, c api.Config) *pair {
	t.Helper()
	d := newDisk(t)
	return &pair{d: d, s: open(t, d, c), m: newModel(c)}
}

// lies fails unless the files are the model's, byte by byte.
func (p *pair) lies(t *testing.T) {
	t.Helper()
	got, want := p.d.Files(), p.m.files(t)
	same(t, "names", names(got), names(want))
	for i := range got {
		is(t, got[i].Name, string(got[i].Bytes), string(want[i].Bytes))
	}
}

func names(l []api.File) []string {
	var out []string
	for _, x := range l {
		out = append(out, x.Name)
	}
	return out
}

func (p *pair) write(t *testing.T, l ...api.Write) {
	t.Helper()
	is(t, "Write", p.s.Write(l), api.OK)
	if p.m.write(t, l) {
		p.m.flush()
	}
}

func (p *pair) delete(t *testing.T, match []api.Matcher, s api.Span) {
	t.Helper()
	n, e := p.s.Delete(match, s)
	is(t, "Delete", e, api.OK)
	is(t, "Delete", n, p.m.delete(t, match, s))
}

func (p *pair) flush(t *testing.T) {
	t.Helper()
	is(t, "Flush", p.s.Flush(), api.OK)
	p.m.flush()
}

func (p *pair) compact(t *testing.T, from, to int) {
	t.Helper()
	is(t, "Compact", p.s.Compact(from, to), api.OK)
	p.m.compact(t, from, to)
}

func (p *pair) reopen(t *testing.T) {
	t.Helper()
	p.s = open(t, p.d, p.m.config)
}

func (p *pair) tells(t *testing.T) {
	t.Helper()
	p.lies(t)
	p.m.tells(t, p.s)
}

func TestExamples(t *testing.T) {
	p := newPair(t, config(4, 10, 0))
	a := set("a", "1")
	same(t, "no files but", names(p.d.Files()), []string{"log.0"})
	p.tells(t)
	p.write(t, wide(a, at(5, 1), at(3, 2), api.Point{T: 5, V: api.NaN64}))
	is(t, "Head", p.s.Head(), 2)
	is(t, "Write", p.s.Write([]api.Write{narrow(a)}), api.ErrStoreKind)
	is(t, "Write", p.s.Write([]api.Write{{Labels: a, Kind: 3, Points: []api.Point{at(1, 1)}}}), api.ErrStoreKind)
	is(t, "Write", p.s.Write([]api.Write{wide(set("a", "1", "a", "2"))}), api.ErrStoreLabels)
	p.tells(t)
	p.delete(t, equals("a", "1"), span(4, 9))
	p.flush(t)
	same(t, "files", names(p.d.Files()), []string{"log.1", "manifest", "seg.1"})
	same(t, "Segments", p.s.Segments(), []api.Segment{{Number: 1, Series: 1, Points: 1, Spans: 1}})
	n := p.d.Writes()
	p.flush(t)
	is(t, "nothing", p.d.Writes(), n)
	p.write(t, wide(a, api.Point{T: 6, V: api.Neg64}))
	p.tells(t)
	p.flush(t)
	p.compact(t, 1, 2)
	same(t, "files", names(p.d.Files()), []string{"log.2", "manifest", "seg.1", "seg.3"})
	p.compact(t, 0, 2)
	p.tells(t)
	same(t, "Segments", p.s.Segments(), []api.Segment{{Number: 4, Series: 1, Points: 2}})
	for _, e := range []api.Errno{p.s.Compact(0, 0), p.s.Compact(0, 2)} {
		is(t, "Compact", e, api.ErrStoreNone)
	}
	p.d.Arm(1, 3, 0)
	is(t, "Write", p.s.Write([]api.Write{wide(a, at(9, 1))}), api.ErrStoreOff)
	is(t, "Write", p.s.Write([]api.Write{wide(a, at(9, 1))}), api.ErrStoreOff)
	p.m.tells(t, p.s)
	p.d.On()
	p.reopen(t)
	p.tells(t)
	is(t, "Keep", p.s.Keep(4), api.OK)
	p.m.delete(t, nil, span(least, 3))
	p.tells(t)
	n, e := p.s.Delete(equals("b", "1"), all())
	is(t, "Delete", n, 0)
	is(t, "Delete", e, api.OK)
}

// value tells one of any sort.
func value(r *rand.Rand) uint64 {
	switch r.Intn(6) {
	case 0:
		return r.Uint64()
	case 1:
		return []uint64{0, api.Neg64, api.NaN64, api.Inf64, 0xfff0000000000001, 0x7ff0000020000000}[r.Intn(6)]
	}
	return f(float64(r.Intn(1000)) / 10)
}

func instant(r *rand.Rand) int64 {
	if r.Intn(20) == 0 {
		return []int64{least, least + 1, greatest, greatest - 1}[r.Intn(4)]
	}
	return int64(r.Intn(60) - 30)
}

func someSpan(r *rand.Rand) api.Span {
	a, b := instant(r), instant(r)
	return span(min(a, b), max(a, b))
}

func someMatch(r *rand.Rand) []api.Matcher {
	kinds := []int{api.MatchEqual, api.MatchUnlike, api.MatchBegins}
	switch r.Intn(4) {
	case 0:
		return nil
	case 1:
		return []api.Matcher{{Kind: api.MatchOneOf, Name: "n", Words: []string{"1", "3", ""}}}
	}
	return []api.Matcher{{Kind: kinds[r.Intn(3)], Name: []string{"n", "m"}[r.Intn(2)], Value: []string{"", "1", "2"}[r.Intn(3)]}}
}

// someWrites tells a batch: even series are wide, odd ones narrow.
func someWrites(r *rand.Rand) []api.Write {
	var l []api.Write
	for range r.Intn(4) {
		n := r.Intn(6)
		w := api.Write{Labels: set("n", strconv.Itoa(n)), Kind: api.KindWide + n%2}
		if n > 2 {
			w.Labels = set("n", strconv.Itoa(n), "empty", "", "m", strconv.Itoa(n%2))
		}
		for range r.Intn(5) {
			w.Points = append(w.Points, api.Point{T: instant(r), V: value(r)})
		}
		l = append(l, w)
	}
	return l
}

// asks fails unless a question is answered as the model does; blocks are decoded just where they share times with it.
func (p *pair) asks(t *testing.T, r *rand.Rand) {
	t.Helper()
	match, s := someMatch(r), someSpan(r)
	ahead := p.s.Reads()
	l, e := p.s.Select(match, s)
	is(t, "Select", e, api.OK)
	same(t, "Select", l, p.m.selected(t, match, s))
	is(t, "Reads", p.s.Reads()-ahead, p.m.reads(t, match, s))
	p.asksCells(t, r, match)
}

// reads tells how many blocks share times with a span.
func (m *model) reads(t *testing.T, match []api.Matcher, s api.Span) int64 {
	n := int64(0)
	for _, key := range m.keys {
		if !matches(t, match, key) {
			continue
		}
		for _, p := range m.parts {
			if p.rows[key] == nil {
				continue
			}
			for block := range slices.Chunk(p.rows[key].sorted(), p.block) {
				if block[0].T <= s.Last && block[len(block)-1].T >= s.From {
					n++
				}
			}
		}
	}
	return n
}

// asksCells: cells are told just where they may be, and are those of the points.
func (p *pair) asksCells(t *testing.T, r *rand.Rand, match []api.Matcher) {
	t.Helper()
	w := api.Window{Step: int64(r.Intn(4)) * 5, Origin: int64(r.Intn(3)) * 5}
	s := span(int64(r.Intn(6)-3)*5, int64(r.Intn(6)+2)*5-1-int64(r.Intn(2)))
	if r.Intn(3) == 0 {
		s = all()
	}
	if s.From > s.Last {
		return
	}
	ahead := p.s.Reads()
	l, ok, e := p.s.Cells(match, w, s)
	is(t, "Cells", e, api.OK)
	is(t, "no block is decoded", p.s.Reads(), ahead)
	is(t, "Cells", ok, p.m.hasCells(t, w, s))
	if !ok {
		is(t, "Cells", len(l), 0)
		return
	}
	var want []api.Cells
	for _, x := range p.m.selected(t, match, s) {
		cells, e := roll.Cells(w, x.Points)
		is(t, "cells", e, api.OK)
		want = append(want, api.Cells{Labels: x.Labels, Cells: cells})
	}
	same(t, "Cells", l, want)
}

func (m *model) hasCells(t *testing.T, w api.Window, s api.Span) bool {
	own := api.Window{Step: m.config.Step}
	if own.Step == 0 || w.Step <= 0 || len(m.parts) != 1 || m.parts[0].step != own.Step || m.head.points()+m.head.spans() > 0 {
		return false
	}
	fits, _ := roll.Fits(own, w)
	whole, _ := roll.Whole(own, s)
	return fits && whole
}

// TestModel: what is told, and what lies on the disk, byte by byte, behind any calls.
func TestModel(t *testing.T) {
	for seed := range int64(60) {
		r := rand.New(rand.NewSource(seed))
		p := newPair(t, config(1+r.Intn(4), 1+r.Intn(25), int64(r.Intn(2)*5)))
		for range 60 {
			p.step(t, r)
			p.lies(t)
			p.asks(t, r)
		}
		p.tells(t)
	}
}

// step does any call, on both.
func (p *pair) step(t *testing.T, r *rand.Rand) {
	t.Helper()
	switch n := len(p.m.parts); r.Intn(12) {
	case 0, 1:
		p.delete(t, someMatch(r), someSpan(r))
	case 2:
		from := int64(r.Intn(40) - 30)
		is(t, "Keep", p.s.Keep(from), api.OK)
		p.m.delete(t, nil, span(least, from-1))
	case 3:
		p.flush(t)
	case 4, 5:
		if n > 0 {
			from := r.Intn(n)
			p.compact(t, from, from+1+r.Intn(n-from))
		}
	case 6:
		if n > 0 {
			p.flush(t)
			p.compact(t, 0, len(p.m.parts))
		}
	case 7:
		p.reopen(t)
		p.tells(t)
	default:
		p.write(t, someWrites(r)...)
	}
}

// TestCut (T1, T2): the same writes and deletions, cut in two ways, tell the same.
func TestCut(t *testing.T) {
	for seed := range int64(30) {
		r := rand.New(rand.NewSource(1000 + seed))
		plain := newPair(t, config(64, api.MaxPoints, 0))
		cut := newPair(t, config(1+r.Intn(3), 1+r.Intn(9), int64(r.Intn(9))))
		for range 40 {
			switch n := len(cut.s.Segments()); r.Intn(6) {
			case 0:
				match, s := someMatch(r), someSpan(r)
				plain.delete(t, match, s)
				_, e := cut.s.Delete(match, s)
				is(t, "Delete", e, api.OK)
			case 1:
				is(t, "Flush", cut.s.Flush(), api.OK)
			case 2:
				if n > 1 {
					is(t, "Compact", cut.s.Compact(r.Intn(2), n), api.OK)
				}
			case 3:
				cut.reopen(t)
			default:
				l := someWrites(r)
				plain.write(t, l...)
				is(t, "Write", cut.s.Write(l), api.OK)
			}
			match, s := someMatch(r), someSpan(r)
			a, _ := plain.s.Select(match, s)
			b, _ := cut.s.Select(match, s)
			same(t, "Select", b, a)
			same(t, "Known", cut.s.Known(), plain.s.Known())
		}
	}
}

// TestNarrow: a narrow series keeps binary32s; the journal has what was handed in.
func TestNarrow(t *testing.T) {
	p := newPair(t, config(4, 100, 0))
	l := []api.Point{at(1, 0.1), {T: 2, V: 0x7ff4000000000001}, {T: 3, V: api.Neg64}, at(4, 1e300), {T: 5, V: 1}, {T: 6, V: 0xfff8000020000000}}
	p.write(t, narrow(set("a", "1"), l...))
	p.tells(t)
	got, _ := p.s.Select(nil, all())
	is(t, "0.1", got[0].Points[0].V, f(float64(float32(0.1))))
	is(t, "1e300", got[0].Points[3].V, f(math.Inf(1)))
	p.reopen(t)
	p.tells(t)
	p.flush(t)
	p.tells(t)
	p.reopen(t)
	p.tells(t)
}
