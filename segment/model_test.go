package segment_test

import (
	"bytes"
	"encoding/binary"
	"hash/crc32"
	"math/rand"
	"slices"
	"testing"

	"fathom/api"
	"fathom/block"
	"fathom/float"
	"fathom/segment"
)

// input is bytes that are taken from the front.
type input struct {
	b    []byte
	good bool
}

func (x *input) take(n uint64) []byte {
	if n > uint64(len(x.b)) {
		x.good = false
		return make([]byte, 8)
	}
	b := x.b[:n]
	x.b = x.b[n:]
	return b
}

func (x *input) n2() uint64 { return uint64(binary.BigEndian.Uint16(x.take(2))) }
func (x *input) n4() uint64 { return uint64(binary.BigEndian.Uint32(x.take(4))) }
func (x *input) n8() int64  { return int64(binary.BigEndian.Uint64(x.take(8))) }

// readsFrame is the chapter's P12.2 by plain loops: what the file says, and the error.
func readsFrame(b []byte) (frame, api.Errno) {
	if len(b) > 1<<26 {
		return frame{}, api.ErrSegmentLong
	}
	if len(b) < 22 || string(b[:4]) != "FSG\x01" {
		return frame{}, api.ErrSegmentForm
	}
	foot := &input{b: b[len(b)-12:], good: true}
	size, own, last := foot.n4(), foot.n4(), foot.n4()
	if last != uint64(crc32.ChecksumIEEE(b[len(b)-12:len(b)-4])) {
		return frame{}, api.ErrSegmentSum
	}
	if size+18 > uint64(len(b)) {
		return frame{}, api.ErrSegmentForm
	}
	from := len(b) - 12 - int(size)
	if own != uint64(sumOf(string(b[:6])+string(b[from:len(b)-12]))) {
		return frame{}, api.ErrSegmentSum
	}
	f := frame{mark: "FSG\x01", size: binary.BigEndian.Uint16(b[4:])}
	if !f.readIndex(&input{b: b[from : len(b)-12], good: true}) || f.size < 1 || f.size > 4096 {
		return frame{}, api.ErrSegmentForm
	}
	if !f.readParts(b[6:from]) {
		return frame{}, api.ErrSegmentForm
	}
	return f, api.OK
}

func (f *frame) readIndex(x *input) bool {
	f.count = uint32(x.n4())
	for i := uint32(0); i < f.count && x.good; i++ {
		r := rowFrame{key: string(x.take(x.n2()))}
		r.kind = x.take(1)[0]
		for n := x.n4(); n > 0 && x.good; n-- {
			r.sizes = append(r.sizes, uint32(x.n4()))
			x.good = x.good && r.sizes[len(r.sizes)-1] > 0
		}
		for n := x.n4(); n > 0 && x.good; n-- {
			r.spans = append(r.spans, api.Span{From: x.n8(), Last: x.n8()})
		}
		r.cells, r.length, r.sum = uint32(x.n4()), uint32(x.n4()), uint32(x.n4())
		if !rowFits(r) || i > 0 && f.rows[i-1].key >= r.key {
			return false
		}
		f.rows = append(f.rows, r)
	}
	return x.good && len(x.b) == 0 && f.count <= 4096
}

func rowFits(r rowFrame) bool {
	if len(r.key) > 4096 || r.kind != 1 && r.kind != 2 || r.cells > 1<<17 {
		return false
	}
	for i, s := range r.spans {
		if s.From > s.Last || i > 0 && (r.spans[i-1].Last > s.From || uint64(s.From)-uint64(r.spans[i-1].Last) < 2) {
			return false
		}
	}
	if r.cells == 0 {
		return r.length == 0 && r.sum == 0
	}
	return r.length >= 5
}

func (f *frame) readParts(b []byte) bool {
	x := &input{b: b, good: true}
	for i := range f.rows {
		for _, n := range f.rows[i].sizes {
			f.rows[i].blocks = append(f.rows[i].blocks, string(x.take(uint64(n))))
		}
		f.rows[i].part = string(x.take(uint64(f.rows[i].length)))
	}
	return x.good && len(x.b) == 0
}

func opensByModel(b []byte) api.Errno {
	_, e := readsFrame(b)
	return e
}

// heads is P12.3 by plain loops: all blocks' own errors go ahead of how they stand together.
func (f frame) heads(row int) ([]api.BlockHead, api.Errno) {
	r := f.rows[row]
	l := []api.BlockHead{}
	for _, b := range r.blocks {
		h, e := block.Head([]byte(b))
		if e != api.OK {
			return nil, e
		}
		l = append(l, h)
	}
	for n, h := range l {
		if !f.countFits(row, n, h.Kind, h.Count) || h.Bytes != len(r.blocks[n]) || n > 0 && l[n-1].Last >= h.First {
			return nil, api.ErrSegmentForm
		}
	}
	return l, api.OK
}

func (f frame) countFits(row, n, kind, count int) bool {
	if n+1 < len(f.rows[row].blocks) {
		return kind == int(f.rows[row].kind) && count == int(f.size)
	}
	return kind == int(f.rows[row].kind) && count >= 1 && count <= int(f.size)
}

func (f frame) block(row, n int) ([]api.Point, api.Errno) {
	kind, l, e := block.Decode([]byte(f.rows[row].blocks[n]))
	if e == api.OK && !f.countFits(row, n, kind, len(l)) {
		return nil, api.ErrSegmentForm
	}
	return l, e
}

// between tells the points that are told up to an error, that error, and how many blocks are decoded.
func (f frame) between(row int, span api.Span) (l []api.Point, reads int64, e api.Errno) {
	heads, e := f.heads(row)
	if e != api.OK || span.From > span.Last {
		return nil, 0, e
	}
	for n, h := range heads {
		if h.First > span.Last || h.Last < span.From {
			continue
		}
		reads++
		points, e := f.block(row, n)
		if e != api.OK {
			return l, reads, e
		}
		for _, p := range points {
			if p.T >= span.From && p.T <= span.Last {
				l = append(l, p)
			}
		}
	}
	return l, reads, api.OK
}

func (f frame) cells(row int) ([]api.Cell, api.Errno) {
	r := f.rows[row]
	if r.cells == 0 {
		return nil, api.OK
	}
	own, sum := r.part[:len(r.part)-4], r.part[len(r.part)-4:]
	if sum != num(uint64(r.sum), 4) || sumOf(own) != r.sum {
		return nil, api.ErrSegmentSum
	}
	x := &input{b: []byte(own), good: true}
	l := []api.Cell{}
	for i := uint32(0); i < r.cells && x.good; i++ {
		c := api.Cell{First: x.n8(), State: x.take(x.n2())}
		if len(c.State) > 4096 || i > 0 && l[i-1].First >= c.First {
			return nil, api.ErrSegmentForm
		}
		l = append(l, c)
	}
	if !x.good || len(x.b) > 0 {
		return nil, api.ErrSegmentForm
	}
	return l, api.OK
}

func (f frame) row(row int) (r api.Row, reads int64, e api.Errno) {
	points, reads, e := f.between(row, all())
	if e != api.OK {
		return api.Row{}, reads, e
	}
	cells, e := f.cells(row)
	if e != api.OK {
		return api.Row{}, reads, e
	}
	r = api.Row{Key: f.rows[row].key, Kind: int(f.rows[row].kind), Run: api.Run{Points: points, Spans: f.rows[row].spans}, Cells: cells}
	for i, p := range points {
		if i > 0 && points[i-1].T >= p.T || r.Kind == 2 && float.Widen(float.Narrow(p.V)) != p.V {
			return api.Row{}, reads, api.ErrSegmentRow
		}
	}
	return r, reads, api.OK
}

func (f frame) check(b []byte) (reads int64, e api.Errno) {
	rows := []api.Row{}
	for i := range f.rows {
		r, n, e := f.row(i)
		reads += n
		if e != api.OK {
			return reads, e
		}
		rows = append(rows, r)
	}
	if !bytes.Equal(frameOf(int(f.size), rows).bytes(), b) {
		return reads, api.ErrSegmentForm
	}
	return reads, api.OK
}

// asModel: whatever is asked of these bytes, it is told as by the model. It tells the errors of Open and Check.
func asModel(t *testing.T, b []byte) (open, check api.Errno) {
	t.Helper()
	f, open := readsFrame(b)
	s, e := segment.Open(b)
	if e != open || (s == nil) != (e != api.OK) {
		t.Fatalf("%x: %v, %d; want %d", b, s, e, open)
	}
	if open != api.OK {
		return open, open
	}
	for i := range f.rows {
		rowAsModel(t, s, f, i)
	}
	reads, check := f.check(b)
	was := s.Reads()
	if e := s.Check(); e != check || s.Reads()-was != reads {
		t.Fatalf("%x: Check %d, %d reads; want %d, %d", b, e, s.Reads()-was, check, reads)
	}
	return open, check
}

func rowAsModel(t *testing.T, s *segment.Segment, f frame, i int) {
	t.Helper()
	heads, e := s.Heads(i)
	if want, g := f.heads(i); text(heads) != text(want) || e != g {
		t.Fatalf("Heads(%d): %v, %d; want %v, %d", i, heads, e, want, g)
	}
	cells, e := s.Cells(i)
	if want, g := f.cells(i); text(cells) != text(want) || e != g {
		t.Fatalf("Cells(%d): %v, %d; want %v, %d", i, cells, e, want, g)
	}
	for n := range f.rows[i].blocks {
		was := s.Reads()
		l, e := s.Block(i, n)
		if want, g := f.block(i, n); text(l) != text(want) || e != g || s.Reads() != was+1 {
			t.Fatalf("Block(%d, %d): %v, %d, %d reads; want %v, %d", i, n, l, e, s.Reads()-was, want, g)
		}
	}
	for _, span := range []api.Span{all(), {From: 0, Last: 0}, {From: -2, Last: 5}, {From: 4, Last: 3}, {From: 3, Last: 9}} {
		spanAsModel(t, s, f, i, span)
	}
	was := s.Reads()
	r, e := s.Row(i)
	if want, reads, g := f.row(i); text(r) != text(want) || e != g || s.Reads()-was != reads {
		t.Fatalf("Row(%d): %s, %d, %d reads; want %s, %d, %d", i, text(r), e, s.Reads()-was, text(want), g, reads)
	}
}

func spanAsModel(t *testing.T, s *segment.Segment, f frame, i int, span api.Span) {
	t.Helper()
	want, reads, g := f.between(i, span)
	was := s.Reads()
	l, e := s.Points(i, span)
	if e != g || s.Reads()-was != reads || e == api.OK && text(l) != text(want) || e != api.OK && len(l) > 0 {
		t.Fatalf("Points(%d, %v): %v, %d, %d reads; want %v, %d, %d", i, span, l, e, s.Reads()-was, want, g, reads)
	}
	was = s.Reads()
	var told []api.Point
	var end api.Errno
	for p, e := range s.Between(i, span) {
		if end != api.OK || e != api.OK && p != (api.Point{}) {
			t.Fatalf("Between(%d, %v): %v beside %d, behind %d", i, span, p, e, end)
		}
		if end = e; e == api.OK {
			told = append(told, p)
		}
	}
	if text(told) != text(want) || end != g || s.Reads()-was != reads {
		t.Fatalf("Between(%d, %v): %v, %d, %d reads; want %v, %d, %d", i, span, told, end, s.Reads()-was, want, g, reads)
	}
}

// spoil changes anything of a row, so that it may be right or wrong.
func spoil(rnd *rand.Rand, f *frame, r *rowFrame) {
	n, size := 0, 0
	if len(r.blocks) > 0 {
		n = rnd.Intn(len(r.blocks))
		size = len(r.blocks[n])
	}
	switch k := rnd.Intn(13); {
	case k == 0:
		r.kind ^= 3
	case k == 1 && len(r.spans) > 0:
		r.spans = slices.Clone(r.spans)
		r.spans[rnd.Intn(len(r.spans))].Last += int64(rnd.Intn(3)) - 1
	case k == 2:
		r.setPart(string(r.part) + "\x00")
	case k == 3:
		r.cells += uint32(rnd.Intn(3) - 1)
	case k == 4:
		r.sum ^= 1
	case k == 5 && len(r.part) > 4:
		b := []byte(r.part[:len(r.part)-4])
		b[rnd.Intn(len(b))] ^= 1 << rnd.Intn(8)
		r.setPart(string(b))
	case k == 6 && size > 0:
		b := []byte(r.blocks[n])
		b[rnd.Intn(size)] ^= 1 << rnd.Intn(8)
		r.setBlock(n, string(b))
	case k == 7 && size > 0:
		r.setBlock(n, r.blocks[n][:rnd.Intn(size)])
	case k == 8 && size > 0:
		r.setBlock(n, r.blocks[n]+"\x00")
	case k == 9 && size > 0:
		m := rnd.Intn(len(r.blocks))
		a, b := r.blocks[n], r.blocks[m]
		r.setBlock(n, b)
		r.setBlock(m, a)
	case k == 10:
		b, _ := block.Encode(1+rnd.Intn(2), points(int64(rnd.Intn(4)), 9+int64(rnd.Intn(9))))
		r.addBlock(string(b))
	case k == 11:
		b, _ := block.Encode(int(r.kind), points(30))
		r.addBlock(string(b))
	case k == 12:
		f.size = uint16(1 + rnd.Intn(5))
	}
}

// P12.2 to P12.7: files with anything wrong in them, under right Sums of the foot, are told as by the model.
func TestAnyFile(t *testing.T) {
	rnd := rand.New(rand.NewSource(123))
	seen := map[[2]api.Errno]int{}
	for range 6000 {
		f := frameOf(1+rnd.Intn(4), someRows(rnd)).clone()
		for range rnd.Intn(3) {
			if len(f.rows) > 0 {
				spoil(rnd, &f, &f.rows[rnd.Intn(len(f.rows))])
			}
		}
		open, check := asModel(t, f.bytes())
		seen[[2]api.Errno{open, check}]++
	}
	for _, e := range []api.Errno{api.OK, api.ErrSegmentForm, api.ErrSegmentSum, api.ErrBlockSum, api.ErrBlockShort} {
		if seen[[2]api.Errno{api.OK, e}] < 20 {
			t.Errorf("%d of %v", e, seen)
		}
	}
	if seen[[2]api.Errno{api.ErrSegmentForm, api.ErrSegmentForm}] < 100 {
		t.Errorf("seen %v", seen)
	}
}
