package segment_test

import (
	"math"
	"strings"
	"testing"

	"fathom/api"
	"fathom/block"
	"fathom/segment"
)

// packed tells a block's bytes.
func packed(t *testing.T, kind int, l []api.Point) string {
	t.Helper()
	b, e := block.Encode(kind, l)
	is(t, "Encode", e, api.OK)
	return string(b)
}

// turned tells a text with one byte as another one; from the end, if at is below 0.
func turned(s string, at int) string {
	if at < 0 {
		at += len(s)
	}
	return s[:at] + string([]byte{s[at] ^ 4}) + s[at+1:]
}

// P12.3: Find tells the place of each key, and none of any other.
func TestFind(t *testing.T) {
	for _, keys := range [][]string{nil, {""}, {"b"}, {"", "b"}, {"b", "d", "f"}, {"b", "d", "f", "h"}, {"a", "a\x00", "aa", "b", "\xff"}} {
		l := []api.Row{}
		for _, key := range keys {
			l = append(l, line(key, 1, 2))
		}
		s := made(t, 2, l...)
		for i, key := range keys {
			if n, found := s.Find(key); n != i || !found {
				t.Errorf("Find(%q) of %q: %d, %t", key, keys, n, found)
			}
		}
		for _, key := range []string{"\x00\x00", "0", "a\x00\x00", "ab", "bb", "c", "e", "g", "z", "\xfe", "\xff\xff", strings.Repeat("k", 10000)} {
			if n, found := s.Find(key); n != 0 || found {
				t.Errorf("Find(%q) of %q: %d, %t", key, keys, n, found)
			}
		}
	}
}

// P12.3 to P12.6: of a row or a block that is not there ErrSegmentNone is told, ahead of all else.
func TestNone(t *testing.T) {
	f := frameOf(3, []api.Row{full("a"), line("b")})
	f.rows[0].setBlock(0, "spoilt")
	f.rows[0].part = turned(f.rows[0].part, 0)
	for _, b := range [][]byte{builds(t, 3, nil), builds(t, 3, []api.Row{full("a"), line("b")}), f.bytes()} {
		s := opens(t, b)
		n := len(s.Keys())
		for _, row := range []int{math.MinInt, -2, -1, n, n + 1, 1 << 32, math.MaxInt} {
			noRow(t, s, row)
		}
		if n == 0 {
			continue
		}
		for _, at := range []int{math.MinInt, -1, 3, 4, 1 << 32, math.MaxInt} {
			l, e := s.Block(0, at)
			if len(l) != 0 || e != api.ErrSegmentNone {
				t.Errorf("Block(0, %d): %v, %d", at, l, e)
			}
		}
		_, e := s.Block(1, 0)
		is(t, "Block of a row without any", e, api.ErrSegmentNone)
		if s.Reads() != 0 {
			t.Errorf("%d reads", s.Reads())
		}
	}
}

func noRow(t *testing.T, s *segment.Segment, row int) {
	t.Helper()
	kind, e1 := s.Kind(row)
	heads, e2 := s.Heads(row)
	spans, e3 := s.Spans(row)
	cells, e4 := s.Cells(row)
	l, e5 := s.Block(row, 0)
	m, e6 := s.Points(row, all())
	none, e7 := s.Points(row, api.Span{From: 1})
	r, e8 := s.Row(row)
	for i, e := range []api.Errno{e1, e2, e3, e4, e5, e6, e7, e8} {
		if e != api.ErrSegmentNone {
			t.Errorf("row %d, call %d: %d", row, i, e)
		}
	}
	if kind != 0 || len(heads)+len(spans)+len(cells)+len(l)+len(m)+len(none) > 0 || text(r) != text(api.Row{}) {
		t.Errorf("row %d: %d, %v, %v, %v, %v, %v, %v", row, kind, heads, spans, cells, l, m, r)
	}
	turns := 0
	for p, e := range s.Between(row, all()) {
		turns++
		if p != (api.Point{}) || e != api.ErrSegmentNone {
			t.Errorf("Between(%d): %v, %d", row, p, e)
		}
	}
	if turns != 1 {
		t.Errorf("Between(%d): %d turns", row, turns)
	}
}

// P12.3: heads are those of the blocks; none is decoded, and what stands behind a head is not looked at.
func TestHeads(t *testing.T) {
	f := frameOf(3, []api.Row{full("a")})
	want := []api.BlockHead{}
	for n, b := range f.rows[0].blocks {
		h, _ := block.Head([]byte(b))
		want = append(want, h)
		f.rows[0].setBlock(n, turned(b, -1))
	}
	s := opens(t, f.bytes())
	if l, e := s.Heads(0); e != api.OK || text(l) != text(want) || len(l) != 3 || s.Reads() != 0 {
		t.Errorf("%v, %d, %d reads; want %v", l, e, s.Reads(), want)
	}
	for n := range want {
		if l, e := s.Block(0, n); len(l) != 0 || e != api.ErrBlockSum || s.Reads() != int64(n+1) {
			t.Errorf("Block(0, %d): %v, %d, %d reads", n, l, e, s.Reads())
		}
	}
	if l, e := made(t, 3, line("a")).Heads(0); len(l) != 0 || e != api.OK {
		t.Errorf("without points: %v, %d", l, e)
	}
}

// P12.3, P12.4: a block that is good by itself, but not in its place.
func TestBlocksOutOfPlace(t *testing.T) {
	wide, thin := func(l ...int64) string { return packed(t, api.KindWide, points(l...)) }, func(at int64) string {
		return packed(t, api.KindNarrow, []api.Point{{T: at}, {T: at + 1}})
	}
	for _, c := range []struct {
		name   string
		blocks []string
		heads  api.Errno
		each   []api.Errno
	}{
		{"as they are", []string{wide(1, 2), wide(3, 4), wide(5)}, api.OK, []api.Errno{0, 0, 0}},
		{"a whole last one", []string{wide(1, 2), wide(3, 4)}, api.OK, []api.Errno{0, 0}},
		{"one point", []string{wide(1)}, api.OK, []api.Errno{0}},
		{"too few ahead", []string{wide(1), wide(3, 4)}, api.ErrSegmentForm, []api.Errno{api.ErrSegmentForm, 0}},
		{"too few between", []string{wide(1, 2), wide(3), wide(5)}, api.ErrSegmentForm, []api.Errno{0, api.ErrSegmentForm, 0}},
		{"too many ahead", []string{wide(1, 2, 3), wide(5)}, api.ErrSegmentForm, []api.Errno{api.ErrSegmentForm, 0}},
		{"too many in the last one", []string{wide(1, 2), wide(3, 4, 5)}, api.ErrSegmentForm, []api.Errno{0, api.ErrSegmentForm}},
		{"too many in the only one", []string{wide(3, 4, 5)}, api.ErrSegmentForm, []api.Errno{api.ErrSegmentForm}},
		{"another kind", []string{wide(1, 2), thin(3), wide(5)}, api.ErrSegmentForm, []api.Errno{0, api.ErrSegmentForm, 0}},
		{"another kind at the end", []string{wide(1, 2), thin(3)}, api.ErrSegmentForm, []api.Errno{0, api.ErrSegmentForm}},
		{"the last time again", []string{wide(1, 2), wide(2, 3)}, api.ErrSegmentForm, []api.Errno{0, 0}},
		{"an earlier time", []string{wide(1, 2), wide(-1, 3)}, api.ErrSegmentForm, []api.Errno{0, 0}},
		{"one block twice", []string{wide(1, 2), wide(1, 2)}, api.ErrSegmentForm, []api.Errno{0, 0}},
		{"the ends of all times", []string{wide(math.MinInt64, math.MinInt64+1), wide(math.MaxInt64)}, api.OK, []api.Errno{0, 0}},
		{"these the other way round", []string{wide(math.MaxInt64-1, math.MaxInt64), wide(math.MinInt64)}, api.ErrSegmentForm, []api.Errno{0, 0}},
		{"a byte behind", []string{wide(1, 2) + "x", wide(3)}, api.ErrSegmentForm, []api.Errno{api.ErrBlockLeft, 0}},
		{"a byte too few", []string{wide(1, 2), wide(3)[:60]}, api.ErrSegmentForm, []api.Errno{0, api.ErrBlockShort}},
		{"too short for a head", []string{wide(1, 2), wide(3)[:50]}, api.ErrBlockShort, []api.Errno{0, api.ErrBlockShort}},
		{"another mark", []string{turned(wide(1, 2), 0), wide(3)}, api.ErrBlockForm, []api.Errno{api.ErrBlockForm, 0}},
		{"another head", []string{wide(1, 2), turned(wide(3), 9)}, api.ErrBlockSum, []api.Errno{0, api.ErrBlockSum}},
		{"a count, then another head", []string{wide(1), turned(wide(3), 9)}, api.ErrBlockSum, []api.Errno{api.ErrSegmentForm, api.ErrBlockSum}},
		{"another head, then a count", []string{turned(wide(1, 2), 9), wide(3, 4, 5)}, api.ErrBlockSum, []api.Errno{api.ErrBlockSum, api.ErrSegmentForm}},
		{"two heads", []string{turned(wide(1, 2), 0), turned(wide(3), 9)}, api.ErrBlockForm, []api.Errno{api.ErrBlockForm, api.ErrBlockSum}},
	} {
		f := frameOf(2, []api.Row{line("a", 8, 9, 10), line("b", 8, 9, 10)})
		f.rows[0].blocks, f.rows[0].sizes = nil, nil
		for _, b := range c.blocks {
			f.rows[0].addBlock(b)
		}
		b := f.bytes()
		asModel(t, b)
		s := opens(t, b)
		_, e := s.Heads(0)
		is(t, c.name+": Heads", e, c.heads)
		_, e = s.Points(0, api.Span{From: 9})
		is(t, c.name+": Points of no times", e, c.heads)
		for n, want := range c.each {
			_, e = s.Block(0, n)
			is(t, c.name+": Block", e, want)
		}
		if r, e := s.Row(1); e != api.OK || text(r) != text(line("b", 8, 9, 10)) {
			t.Errorf("%s: another row tells %s, %d", c.name, text(r), e)
		}
	}
}

// P12.3: cells under Sums that are not theirs, and what are no cells.
func TestCells(t *testing.T) {
	cell := func(first int64, state string) string {
		return num(uint64(first), 8) + num(uint64(len(state)), 2) + state
	}
	two := cell(1, "one") + cell(2, "")
	for _, c := range []struct {
		name   string
		change func(r *rowFrame)
		want   api.Errno
	}{
		{"as they are", func(r *rowFrame) {}, api.OK},
		{"a byte that is another one", func(r *rowFrame) { r.part = turned(r.part, 3) }, api.ErrSegmentSum},
		{"the Sum with them", func(r *rowFrame) { r.part = turned(r.part, -1) }, api.ErrSegmentSum},
		{"the index's Sum", func(r *rowFrame) { r.sum ^= 1 }, api.ErrSegmentSum},
		{"both Sums alike", func(r *rowFrame) { r.sum ^= 1 << 31; r.part = r.part[:len(r.part)-4] + num(uint64(r.sum), 4) }, api.ErrSegmentSum},
		{"one more than there are", func(r *rowFrame) { r.cells++ }, api.ErrSegmentForm},
		{"one less", func(r *rowFrame) { r.cells-- }, api.ErrSegmentForm},
		{"far more", func(r *rowFrame) { r.cells = api.MaxCells }, api.ErrSegmentForm},
		{"a byte behind", func(r *rowFrame) { r.setPart(two + "\x00") }, api.ErrSegmentForm},
		{"a byte too few", func(r *rowFrame) { r.setPart(two[:len(two)-1]) }, api.ErrSegmentForm},
		{"of one byte", func(r *rowFrame) { r.setPart("\x00") }, api.ErrSegmentForm},
		{"a state that is too short", func(r *rowFrame) { r.setPart(cell(1, "") + cell(2, "state")[:14]) }, api.ErrSegmentForm},
		{"one time twice", func(r *rowFrame) { r.setPart(cell(1, "one") + cell(1, "")) }, api.ErrSegmentForm},
		{"times that fall", func(r *rowFrame) { r.setPart(cell(1, "one") + cell(0, "")) }, api.ErrSegmentForm},
		{"from end to end", func(r *rowFrame) { r.setPart(cell(math.MaxInt64, "") + cell(math.MinInt64, "")) }, api.ErrSegmentForm},
		{"the longest state", func(r *rowFrame) { r.setPart(cell(-1, strings.Repeat("s", api.MaxState)) + cell(1, "x")) }, api.OK},
		{"a longer state", func(r *rowFrame) { r.setPart(cell(-1, strings.Repeat("s", api.MaxState+1)) + cell(1, "x")) }, api.ErrSegmentForm},
		{"no cell under another Sum", func(r *rowFrame) { r.setPart("\x00"); r.sum ^= 1 }, api.ErrSegmentSum},
	} {
		f := frameOf(2, []api.Row{line("a", 1, 2, 3), line("b", 1), full("c")})
		f.rows[0].cells = 2
		f.rows[0].setPart(two)
		c.change(&f.rows[0])
		b := f.bytes()
		asModel(t, b)
		s := opens(t, b)
		l, e := s.Cells(0)
		is(t, c.name, e, c.want)
		if e != api.OK && len(l) != 0 {
			t.Errorf("%s: %v beside %d", c.name, l, e)
		}
		_, e = s.Row(0)
		is(t, c.name+": Row", e, c.want)
		is(t, c.name+": Check", s.Check(), c.want)
		if p, e := s.Points(0, all()); e != api.OK || len(p) != 3 {
			t.Errorf("%s: Points: %v, %d", c.name, p, e)
		}
		if l, e := s.Cells(1); len(l) != 0 || e != api.OK {
			t.Errorf("%s: of the next row: %v, %d", c.name, l, e)
		}
		if l, e := s.Cells(2); text(l) != text(full("").Cells) || e != api.OK {
			t.Errorf("%s: of the last row: %v, %d", c.name, l, e)
		}
	}
}

// P12.6: of a row the blocks' errors go ahead of the cells', and what stands together ahead of each block's own.
func TestRowErrorsInOrder(t *testing.T) {
	f := frameOf(3, []api.Row{full("a"), full("b")})
	r := &f.rows[0]
	r.sum ^= 1
	rowIs := func(what string, want api.Errno, reads int64) {
		t.Helper()
		s := opens(t, f.bytes())
		got, e := s.Row(0)
		is(t, what, e, want)
		if text(got) != text(api.Row{}) || s.Reads() != reads {
			t.Errorf("%s: %s beside %d, %d reads; want %d", what, text(got), e, s.Reads(), reads)
		}
		is(t, what+": Check", s.Check(), want)
		if s.Reads() != 2*reads {
			t.Errorf("%s: Check reads %d, want %d", what, s.Reads()-reads, reads)
		}
	}
	rowIs("the cells", api.ErrSegmentSum, 3)
	r.setBlock(2, turned(r.blocks[2], -1))
	rowIs("the last block", api.ErrBlockSum, 3)
	r.setBlock(1, turned(r.blocks[1], 60))
	rowIs("the second block", api.ErrBlockSum, 2)
	r.setBlock(2, r.blocks[0])
	rowIs("heads", api.ErrSegmentForm, 0)
	r.setBlock(0, turned(r.blocks[0], 0))
	rowIs("a head", api.ErrBlockForm, 0)
}

// P12.6: Check tells the error of the first row that is refused, and goes no further.
func TestCheckGoesRowByRow(t *testing.T) {
	f := frameOf(2, []api.Row{line("a", 1, 2, 3), line("b", 1, 2, 3), line("c", 1, 2, 3)})
	f.rows[2].setBlock(0, turned(f.rows[2].blocks[0], 0))
	s := opens(t, f.bytes())
	is(t, "the third row", s.Check(), api.ErrBlockForm)
	if s.Reads() != 4 {
		t.Errorf("%d reads, want 4", s.Reads())
	}
	f.rows[1].setBlock(1, turned(f.rows[1].blocks[1], -1))
	s = opens(t, f.bytes())
	is(t, "the second row", s.Check(), api.ErrBlockSum)
	if s.Reads() != 4 {
		t.Errorf("%d reads, want 4", s.Reads())
	}
}

// P12.7: with one byte as another one, whichever, Open or Check refuses.
func TestOneByteChanged(t *testing.T) {
	thin := api.Row{Key: "thin", Kind: api.KindNarrow, Run: api.Run{Points: []api.Point{{T: 1, V: api.NaN64}, {T: 2, V: api.Neg64}}}}
	for _, l := range [][]api.Row{nil, {line("k", 4)}, {full("a"), line("b"), thin}} {
		b := builds(t, 3, l)
		for at := range b {
			for turn := 1; turn < 256; turn++ {
				b[at] ^= byte(turn)
				if s, e := segment.Open(b); e == api.OK && s.Check() == api.OK {
					t.Fatalf("byte %d turned by %x: taken", at, turn)
				}
				b[at] ^= byte(turn)
			}
		}
	}
}

// P12.7: each beginning of a segment, and a segment with anything behind it, is refused here: none of them is one by chance.
func TestBeginningsAndMore(t *testing.T) {
	b := builds(t, 3, []api.Row{full("a"), line("b")})
	for size := range b {
		if s, e := segment.Open(b[:size]); e == api.OK {
			t.Errorf("%d bytes: %v", size, s)
		}
	}
	for _, more := range []string{"\x00", "\xff", string(b[len(b)-12:]), string(b)} {
		asModel(t, append(b[:len(b):len(b)], more...))
	}
}
