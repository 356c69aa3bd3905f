package segment_test

import (
	"bytes"
	"math"
	"math/rand"
	"strings"
	"testing"

	"fathom/api"
	"fathom/segment"
)

// The chapter's example 1, written out by hand.
func TestExampleOfNone(t *testing.T) {
	b := builds(t, 2, nil)
	want := []byte{0x46, 0x53, 0x47, 1, 0, 2, 0, 0, 0, 0, 0, 0, 0, 4}
	if len(b) != 22 || !bytes.Equal(b[:14], want) {
		t.Errorf("%x; want %x and two Sums", b, want)
	}
	s := opens(t, b)
	if len(s.Keys()) != 0 || s.Size() != 2 || s.Check() != api.OK || s.Reads() != 0 {
		t.Errorf("Keys %q, Size %d, Check %d, Reads %d", s.Keys(), s.Size(), s.Check(), s.Reads())
	}
	builds(t, 2, []api.Row{})
	notBuilt(t, "of size 0", 0, nil, api.ErrSegmentSize)
	notBuilt(t, "b, a", 2, []api.Row{line("b"), line("a")}, api.ErrSegmentRows)
}

// The chapter's example 3.
func TestExampleOfSpans(t *testing.T) {
	r := line("k")
	r.Run.Spans = []api.Span{{From: 1, Last: 2}, {From: 3, Last: 4}}
	notBuilt(t, "they touch", 2, []api.Row{r}, api.ErrSegmentRow)
	r.Run.Spans = []api.Span{{From: 1, Last: 2}, {From: 4, Last: 4}}
	builds(t, 2, []api.Row{r})
}

// A row's bytes, and what the index says of it, written out by hand but for the block and the Sums.
func TestBytesOfARow(t *testing.T) {
	r := line("k", 7)
	r.Run.Spans = []api.Span{{From: -1, Last: 3}}
	r.Cells = []api.Cell{{First: -2, State: []byte("st")}}
	b := string(builds(t, 9, []api.Row{r}))
	f := frameOf(9, []api.Row{r})
	packed := f.rows[0].blocks[0]
	cells := "\xff\xff\xff\xff\xff\xff\xff\xfe\x00\x02st"
	cells += num(uint64(sumOf(cells)), 4)
	index := "\x00\x00\x00\x01" + "\x00\x01k" + "\x01" + "\x00\x00\x00\x01" + num(uint64(len(packed)), 4)
	index += "\x00\x00\x00\x01" + "\xff\xff\xff\xff\xff\xff\xff\xff" + "\x00\x00\x00\x00\x00\x00\x00\x03"
	index += "\x00\x00\x00\x01" + "\x00\x00\x00\x10" + cells[12:]
	foot := num(uint64(len(index)), 4) + num(uint64(sumOf("FSG\x01\x00\x09"+index)), 4)
	want := "FSG\x01\x00\x09" + packed + cells + index + foot + num(uint64(sumOf(foot)), 4)
	if b != want {
		t.Errorf("%x; want %x", b, want)
	}
}

// P12.1, P12.7: rows of all sorts have the chapter's bytes, there and back.
func TestBuildLaysTheForm(t *testing.T) {
	rnd := rand.New(rand.NewSource(121))
	for range 3000 {
		l := someRows(rnd)
		size := 1 + rnd.Intn(5)
		tells(t, opens(t, builds(t, size, l)), size, l)
	}
	big := line("big")
	for i := range 3*api.MaxBlock + 1 {
		big.Run.Points = append(big.Run.Points, api.Point{T: int64(i), V: uint64(i % 7)})
	}
	for _, size := range []int{1000, api.MaxBlock - 1, api.MaxBlock} {
		tells(t, opens(t, builds(t, size, []api.Row{big})), size, []api.Row{big})
	}
}

// tells: a segment tells just these rows, bit by bit, and Check takes it.
func tells(t *testing.T, s *segment.Segment, size int, l []api.Row) {
	t.Helper()
	if s.Size() != size || len(s.Keys()) != len(l) {
		t.Fatalf("Size %d, Keys %q; want %d, %d rows", s.Size(), s.Keys(), size, len(l))
	}
	for i, want := range l {
		if r, e := s.Row(i); e != api.OK || text(r) != text(want) || s.Keys()[i] != want.Key {
			t.Fatalf("row %d: %s, %d; want %s", i, text(r), e, text(want))
		}
	}
	is(t, "Check", s.Check(), api.OK)
}

// P12.1: size is 1 to MaxBlock, whatever the rows.
func TestBuildSizes(t *testing.T) {
	bad := line("x", 2, 1)
	for _, size := range []int{math.MinInt, -1, 0, api.MaxBlock + 1, 1 << 16, 1<<16 + 1, math.MaxInt} {
		for _, l := range [][]api.Row{nil, {line("a", 1)}, {bad, bad}, make([]api.Row, api.MaxSeries+1)} {
			notBuilt(t, "a size that is none", size, l, api.ErrSegmentSize)
		}
	}
	for _, size := range []int{1, 2, 255, 256, api.MaxBlock - 1, api.MaxBlock} {
		l := []api.Row{full("a"), line("b"), full("c")}
		tells(t, opens(t, builds(t, size, l)), size, l)
	}
}

// P12.1: keys rise, byte by byte, and there are at most MaxSeries.
func TestBuildKeys(t *testing.T) {
	rising := []string{"", "\x00", "\x00\x00", "A", "Z", "a", "a\x00", "aa", "ab", "b", "\x7f", "\x80", "\xc3\xa9", "\xff", "\xff\x00"}
	l := []api.Row{}
	for i, key := range rising {
		l = append(l, line(key))
		for _, other := range rising[:i+1] {
			notBuilt(t, "does not rise", 3, []api.Row{line(key), line(other)}, api.ErrSegmentRows)
			notBuilt(t, "does not rise", 3, append(l[:len(l):len(l)], line(other), line(other+"\xff\xff")), api.ErrSegmentRows)
		}
	}
	tells(t, opens(t, builds(t, 3, l)), 3, l)
	many := []api.Row{}
	for i := range api.MaxSeries + 1 {
		many = append(many, line(num(uint64(i), 2)))
	}
	notBuilt(t, "too many", 3, many, api.ErrSegmentRows)
	many[0].Kind = 0
	notBuilt(t, "too many, and one may not be", 3, many, api.ErrSegmentRows)
	many = many[1:]
	tells(t, opens(t, builds(t, 3, many)), 3, many)
}

// rowCase is a row that differs from a good one in one thing.
type rowCase struct {
	name   string
	change func(r *api.Row)
	good   bool
}

func points(times ...int64) []api.Point { return line("", times...).Run.Points }

// narrow makes a row narrow, with values that are binary32s' but for one.
func narrow(at int, v uint64) func(r *api.Row) {
	return func(r *api.Row) {
		r.Kind = api.KindNarrow
		r.Run.Points = points(1, 2, 3, 4, 5)
		for i := range r.Run.Points {
			r.Run.Points[i].V = 0x3ff0000000000000
		}
		r.Run.Points[at].V = v
	}
}

func spans(l ...api.Span) func(r *api.Row) { return func(r *api.Row) { r.Run.Spans = l } }

func cells(l ...api.Cell) func(r *api.Row) { return func(r *api.Row) { r.Cells = l } }

func times(l ...int64) func(r *api.Row) { return func(r *api.Row) { r.Run.Points = points(l...) } }

func rowCases() []rowCase {
	least, most := int64(math.MinInt64), int64(math.MaxInt64)
	return []rowCase{
		{"as it is", func(r *api.Row) {}, true},
		{"the longest key", func(r *api.Row) { r.Key = strings.Repeat("k", api.MaxKey) }, true},
		{"a longer key", func(r *api.Row) { r.Key = strings.Repeat("k", api.MaxKey+1) }, false},
		{"a far longer key", func(r *api.Row) { r.Key = strings.Repeat("k", 1<<16+1) }, false},
		{"kind 0", func(r *api.Row) { r.Kind = 0 }, false},
		{"kind 3", func(r *api.Row) { r.Kind = 3 }, false},
		{"kind -1", func(r *api.Row) { r.Kind = -1 }, false},
		{"kind 257", func(r *api.Row) { r.Kind = 257 }, false},
		{"kind 0 without points", func(r *api.Row) { *r = api.Row{Key: "k"} }, false},
		{"narrow without points", func(r *api.Row) { *r = api.Row{Key: "k", Kind: api.KindNarrow} }, true},
		{"one time twice", times(1, 2, 2), false},
		{"a time below the one ahead", times(1, 3, 2), false},
		{"a time twice where one block ends", times(1, 2, 3, 3), false},
		{"a time below where one block ends", times(1, 2, 3, 1), false},
		{"the ends of all times", times(least, least+1, -1, 0, most-1, most), true},
		{"these the other way round", times(most, least), false},
		{"a narrow NaN", narrow(4, 0xfff8000020000000), true},
		{"narrow, but 0.1", narrow(0, 0x3fb999999999999a), false},
		{"narrow, but the last one", narrow(4, 0x3ff0000000000001), false},
		{"narrow, but a signalling NaN", narrow(2, 0x7ff0000020000000), false},
		{"wide, a signalling NaN", func(r *api.Row) { r.Run.Points[0].V = 0x7ff0000000000001 }, true},
		{"a span of one time", spans(api.Span{From: 5, Last: 5}), true},
		{"a span that ends ahead", spans(api.Span{From: 5, Last: 4}), false},
		{"a second one that ends ahead", spans(api.Span{From: 1, Last: 1}, api.Span{From: 5, Last: 4}), false},
		{"all times", spans(api.Span{From: least, Last: most}), true},
		{"these the other way round", spans(api.Span{From: most, Last: least}), false},
		{"spans that touch", spans(api.Span{From: 1, Last: 5}, api.Span{From: 6, Last: 7}), false},
		{"a time between", spans(api.Span{From: 1, Last: 5}, api.Span{From: 7, Last: 7}), true},
		{"spans that share a time", spans(api.Span{From: 1, Last: 5}, api.Span{From: 5, Last: 7}), false},
		{"a span behind a later one", spans(api.Span{From: 10, Last: 20}, api.Span{From: 1, Last: 2}), false},
		{"the ends of all spans", spans(api.Span{From: least, Last: least}, api.Span{From: most, Last: most}), true},
		{"from the least time on", spans(api.Span{From: least, Last: -1}, api.Span{From: 1, Last: most}), true},
		{"behind the greatest time", spans(api.Span{From: 0, Last: most}, api.Span{From: least, Last: 9}), false},
		{"the greatest time twice", spans(api.Span{From: 0, Last: most}, api.Span{From: most, Last: most}), false},
		{"the least time twice", spans(api.Span{From: least, Last: least}, api.Span{From: least, Last: 0}), false},
		{"touching at the end", spans(api.Span{From: 0, Last: most - 1}, api.Span{From: most, Last: most}), false},
		{"the third touches", spans(api.Span{From: 0, Last: 0}, api.Span{From: 2, Last: 2}, api.Span{From: 3, Last: 3}), false},
		{"cells at the ends", cells(api.Cell{First: least}, api.Cell{First: most}), true},
		{"one cell twice", cells(api.Cell{First: 4}, api.Cell{First: 4}), false},
		{"cells that fall", cells(api.Cell{First: 4}, api.Cell{First: 5}, api.Cell{First: 3}), false},
		{"cells from end to end", cells(api.Cell{First: most}, api.Cell{First: least}), false},
		{"the longest state", cells(api.Cell{State: make([]byte, api.MaxState)}), true},
		{"a longer state", cells(api.Cell{State: make([]byte, api.MaxState+1)}), false},
		{"a longer state behind", cells(api.Cell{}, api.Cell{First: 1, State: make([]byte, 1<<16)}), false},
		{"as many cells as may be", cells(manyCells(api.MaxCells)...), true},
		{"too many cells", cells(manyCells(api.MaxCells + 1)...), false},
	}
}

func manyCells(n int) []api.Cell {
	l := make([]api.Cell, n)
	for i := range l {
		l[i].First = int64(i)
	}
	return l
}

// P12.1: a row may be or not, wherever it stands.
func TestBuildRowMayBe(t *testing.T) {
	for _, c := range rowCases() {
		r := full("k")
		c.change(&r)
		for _, l := range [][]api.Row{{r}, {full("a"), r}, {r, full("z")}, {full("a"), r, full("z")}} {
			if !c.good {
				notBuilt(t, c.name, 3, l, api.ErrSegmentRow)
				continue
			}
			tells(t, opens(t, builds(t, 3, l)), 3, l)
		}
	}
}

// P12.1: of several errors the first one that is listed.
func TestBuildErrorsInOrder(t *testing.T) {
	bad, long := line("b", 2, 1), full("c")
	long.Cells = manyCells(api.MaxCells)
	for i := range long.Cells {
		long.Cells[i].State = make([]byte, 503) // 2^17 times 513
	}
	notBuilt(t, "long", 3, []api.Row{long}, api.ErrSegmentLong)
	notBuilt(t, "a row, then long", 3, []api.Row{bad, long}, api.ErrSegmentRow)
	bad.Key = "d"
	notBuilt(t, "long, then a row", 3, []api.Row{long, bad}, api.ErrSegmentRow)
	notBuilt(t, "long, then a row, and keys", 3, []api.Row{long, bad, line("a")}, api.ErrSegmentRows)
	notBuilt(t, "all of it", 0, []api.Row{long, bad, line("a")}, api.ErrSegmentSize)
}

// filler tells a row whose cells have just so many bytes in the file, Sum and all.
func filler(key string, size int) api.Row {
	r := api.Row{Key: key, Kind: api.KindWide}
	size -= 4
	for n := int64(0); size > 0; n++ {
		own := min(size, api.MaxState+10)
		if rest := size - own; rest > 0 && rest < 10 {
			own -= 10
		}
		r.Cells = append(r.Cells, api.Cell{First: n, State: make([]byte, own-10)})
		size -= own
	}
	return r
}

// P12.1, P12.2: MaxSegment bytes are a segment, one more are none: whichever of its parts has it.
func TestBuildLong(t *testing.T) {
	rest := []api.Row{full("a"), full("b")}
	without, _ := segment.Build(2, append(rest, filler("c", 100)))
	fill := api.MaxSegment - len(without) + 100
	l := append(rest, filler("c", fill))
	b, e := segment.Build(2, l)
	if e != api.OK || len(b) != api.MaxSegment {
		t.Fatalf("%d bytes, %d; want %d", len(b), e, api.MaxSegment)
	}
	s := opens(t, b)
	if r, e := s.Row(2); e != api.OK || len(r.Cells) != len(l[2].Cells) {
		t.Errorf("%d cells, %d", len(r.Cells), e)
	}
	notOpened(t, "a byte more", append(b, 0), api.ErrSegmentLong)
	notOpened(t, "a byte more, and another mark", append([]byte{0}, b...), api.ErrSegmentLong)
	for name, more := range map[string]func(a, b, c *api.Row){
		"a key":   func(a, b, c *api.Row) { a.Key += "a" },
		"a span":  func(a, b, c *api.Row) { a.Run.Spans = append(a.Run.Spans[:3:3], api.Span{From: 200, Last: 200}) },
		"a block": func(a, b, c *api.Row) { b.Run.Points = append(b.Run.Points[:7:7], api.Point{T: 1 << 40, V: 7}) },
		"a cell":  func(a, b, c *api.Row) { a.Cells = append(a.Cells[:3:3], api.Cell{First: 99}) },
		"a state": func(a, b, c *api.Row) {
			last := &c.Cells[len(c.Cells)-1]
			last.State = append(last.State, 0)
		},
		"cells": func(a, b, c *api.Row) { *c = filler("c", fill+1) },
	} {
		own := []api.Row{full("a"), full("b"), filler("c", fill)}
		more(&own[0], &own[1], &own[2])
		notBuilt(t, name, 2, own, api.ErrSegmentLong)
	}
	notBuilt(t, "cells alone", 2, []api.Row{filler("c", api.MaxSegment)}, api.ErrSegmentLong)
}

// P12.1, R3: far more points than a segment has room for end in an error, and soon.
func TestBuildFarTooLong(t *testing.T) {
	rnd := rand.New(rand.NewSource(122))
	r := line("k")
	for i := range 1 << 20 {
		r.Run.Points = append(r.Run.Points, api.Point{T: int64(i), V: rnd.Uint64()})
	}
	notBuilt(t, "too many points", 1, []api.Row{r}, api.ErrSegmentLong)
	r.Run.Points[1<<20-1].T = 0
	notBuilt(t, "and a time that does not rise", 1, []api.Row{r}, api.ErrSegmentRow)
}
