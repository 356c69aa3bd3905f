package segment_test

import (
	"math"
	"math/rand"
	"slices"
	"strings"
	"testing"

	"fathom/api"
	"fathom/segment"
)

// refoot tells bytes with the Sums of their foot made right, as far as its length leaves an index.
func refoot(b []byte) []byte {
	b = slices.Clone(b)
	at := len(b) - 12
	size := int(uint32(b[at])<<24 | uint32(b[at+1])<<16 | uint32(b[at+2])<<8 | uint32(b[at+3]))
	if from := at - size; from >= 6 {
		copy(b[at+4:], num(uint64(sumOf(string(b[:6])+string(b[from:at]))), 4))
	}
	copy(b[at+8:], num(uint64(sumOf(string(b[at:at+8]))), 4))
	return b
}

// P12.2: fewer than 22 bytes, or another mark, are no segment, whatever else they are.
func TestOpenWantsItsMark(t *testing.T) {
	b := builds(t, 3, []api.Row{full("a")})
	for size := range 22 {
		notOpened(t, "a beginning", b[:size], api.ErrSegmentForm)
		notOpened(t, "an end", b[len(b)-size:], api.ErrSegmentForm)
	}
	notOpened(t, "none", nil, api.ErrSegmentForm)
	f := frameOf(3, nil)
	notOpened(t, "21 bytes with right Sums", []byte(f.over("\x00\x00\x00")), api.ErrSegmentForm)
	opens(t, f.bytes())
	for at := range 4 {
		for turn := 1; turn < 256; turn++ {
			c := slices.Clone(b)
			c[at] ^= byte(turn)
			notOpened(t, "another mark", c, api.ErrSegmentForm)
			notOpened(t, "another mark, right Sums", refoot(c), api.ErrSegmentForm)
			c[len(c)-1] ^= 1
			notOpened(t, "another mark, another Sum", c, api.ErrSegmentForm)
		}
	}
}

// P12.2: then the foot's last Sum, then how many bytes there are, then the other Sum, then what stands in the index.
func TestOpenErrorsInOrder(t *testing.T) {
	f := frameOf(3, []api.Row{full("a")})
	f.rows[0].kind = 7
	b := f.bytes()
	at, index := len(b)-12, len(f.index())
	notOpened(t, "the index", b, api.ErrSegmentForm)
	other := slices.Clone(b)
	other[at-index] ^= 1
	notOpened(t, "the index, and its Sum", other, api.ErrSegmentSum)
	long := slices.Clone(b)
	copy(long[at:], num(uint64(at-6+1), 4))
	long = refoot(long)
	notOpened(t, "a byte more than there are", long, api.ErrSegmentForm)
	long[at+5] ^= 1
	copy(long[at+8:], num(uint64(sumOf(string(long[at:at+8]))), 4))
	notOpened(t, "a byte more than there are, and the other Sum", long, api.ErrSegmentForm)
	long[at+11] ^= 1
	notOpened(t, "a byte more than there are, and the last Sum", long, api.ErrSegmentSum)
	for _, size := range []uint64{1 << 31, 1<<32 - 1, uint64(at), uint64(len(b))} {
		copy(b[at:], num(size, 4))
		notOpened(t, "far more than there are", refoot(b), api.ErrSegmentForm)
	}
}

// P12.2: the foot's Sum is of the head and the index, and of no more: a block that is another one is opened.
func TestWhichSum(t *testing.T) {
	f := frameOf(3, []api.Row{full("a"), full("b")})
	b := f.bytes()
	index := len(b) - 12 - len(f.index())
	for at := 4; at < len(b); at++ {
		c := slices.Clone(b)
		c[at] ^= 0x20
		if at >= 6 && at < index {
			opens(t, c)
			continue
		}
		notOpened(t, "head, index and foot", c, api.ErrSegmentSum)
	}
}

// frameCase is a file that differs from a good one in one thing, with all Sums right.
type frameCase struct {
	name   string
	change func(f *frame)
	good   bool
}

func onRow(n int, change func(r *rowFrame)) func(f *frame) {
	return func(f *frame) { change(&f.rows[n]) }
}

func withSpans(l ...api.Span) func(f *frame) {
	return onRow(1, func(r *rowFrame) { r.spans = l })
}

func withCells(count, length, sum uint32, part string) func(f *frame) {
	return onRow(1, func(r *rowFrame) { r.cells, r.length, r.sum, r.part = count, length, sum, part })
}

// withBlocks puts blocks of these sizes, and of one byte all through, in a row's place.
func withBlocks(sizes ...uint32) func(f *frame) {
	return onRow(1, func(r *rowFrame) {
		r.sizes, r.blocks = sizes, nil
		for _, n := range sizes {
			r.blocks = append(r.blocks, strings.Repeat("x", int(n)))
		}
	})
}

func withKeys(l ...string) func(f *frame) {
	return func(f *frame) {
		for i, key := range l {
			f.rows[i].key = key
		}
	}
}

func frameCases() []frameCase {
	least, most := int64(math.MinInt64), int64(math.MaxInt64)
	return []frameCase{
		{"as it is", func(f *frame) {}, true},
		{"size 0", func(f *frame) { f.size = 0 }, false},
		{"size 1", func(f *frame) { f.size = 1 }, true},
		{"the greatest size", func(f *frame) { f.size = api.MaxBlock }, true},
		{"a greater size", func(f *frame) { f.size = api.MaxBlock + 1 }, false},
		{"the greatest number for a size", func(f *frame) { f.size = math.MaxUint16 }, false},
		{"a row more than there are", func(f *frame) { f.count++ }, false},
		{"a row less", func(f *frame) { f.count-- }, false},
		{"no row", func(f *frame) { f.count = 0 }, false},
		{"far more rows", func(f *frame) { f.count = math.MaxUint32 }, false},
		{"no rows at all", func(f *frame) { f.rows, f.count = nil, 0 }, true},
		{"something left in the index", func(f *frame) { f.left = "\x00" }, false},
		{"a count left in the index", func(f *frame) { f.left = "\x00\x00\x00\x00" }, false},
		{"something ahead of the index", func(f *frame) { f.gap = "\x00" }, false},
		{"the longest key", withKeys("a", "b"+strings.Repeat("\x00", api.MaxKey-1)), true},
		{"a longer key", withKeys("a", "b"+strings.Repeat("\x00", api.MaxKey)), false},
		{"the longest that can be laid", withKeys("a", strings.Repeat("b", math.MaxUint16)), false},
		{"the empty key", withKeys("", "\x00", "\xff"), true},
		{"one key twice", withKeys("a", "a"), false},
		{"the last key twice", withKeys("a", "c", "c"), false},
		{"keys that fall", withKeys("b", "a"), false},
		{"bytes above 7f", withKeys("\x7f", "\x80", "\xff"), true},
		{"kind 0", onRow(1, func(r *rowFrame) { r.kind = 0 }), false},
		{"the other kind", onRow(1, func(r *rowFrame) { r.kind = 2 }), true},
		{"kind 3", onRow(1, func(r *rowFrame) { r.kind = 3 }), false},
		{"kind 129", onRow(1, func(r *rowFrame) { r.kind = 129 }), false},
		{"no blocks", withBlocks(), true},
		{"blocks of one byte", withBlocks(1, 1, 1), true},
		{"a block of none", withBlocks(0), false},
		{"the first block of none", withBlocks(0, 70), false},
		{"the last block of none", withBlocks(70, 0), false},
		{"a byte more in a block", onRow(1, func(r *rowFrame) { r.sizes = []uint32{r.sizes[0] + 1} }), false},
		{"a byte less in a block", onRow(1, func(r *rowFrame) { r.sizes = []uint32{r.sizes[0] - 1} }), false},
		{"far more bytes in a block", onRow(1, func(r *rowFrame) { r.sizes = []uint32{math.MaxUint32} }), false},
		{"as many bytes, and 2^32", onRow(1, func(r *rowFrame) { r.sizes = []uint32{1 << 31, 1 << 31, r.sizes[0]} }), false},
		{"the last block's bytes are the first one's", onRow(0, func(r *rowFrame) { r.sizes = []uint32{r.sizes[0] + r.sizes[1], r.sizes[2]} }), true},
		{"no spans", withSpans(), true},
		{"all times", withSpans(api.Span{From: least, Last: most}), true},
		{"a span that ends ahead", withSpans(api.Span{From: 1, Last: 0}), false},
		{"spans that touch", withSpans(api.Span{From: 1, Last: 2}, api.Span{From: 3, Last: 4}), false},
		{"a time between", withSpans(api.Span{From: 1, Last: 2}, api.Span{From: 4, Last: 4}), true},
		{"spans that fall", withSpans(api.Span{From: 1, Last: 2}, api.Span{From: -4, Last: -4}), false},
		{"behind the greatest time", withSpans(api.Span{From: 0, Last: most}, api.Span{From: least, Last: least}), false},
		{"no cells", withCells(0, 0, 0, ""), true},
		{"no cells, but bytes", withCells(0, 4, 0, "\x00\x00\x00\x00"), false},
		{"no cells, but a length", withCells(0, 1, 0, "x"), false},
		{"no cells, but a Sum", withCells(0, 0, 1, ""), false},
		{"a cell without bytes", withCells(1, 0, 0, ""), false},
		{"a cell of three bytes", withCells(1, 3, 0, "xxx"), false},
		{"a cell of a Sum", withCells(1, 4, 0, "xxxx"), false},
		{"a cell of five bytes", withCells(1, 5, 0, "xxxxx"), true},
		{"as many cells as may be", withCells(api.MaxCells, 5, 0, "xxxxx"), true},
		{"more cells", withCells(api.MaxCells+1, 5, 0, "xxxxx"), false},
		{"far more cells", withCells(math.MaxUint32, 5, 0, "xxxxx"), false},
		{"more bytes of cells", onRow(1, func(r *rowFrame) { r.length++ }), false},
		{"fewer bytes of cells", onRow(1, func(r *rowFrame) { r.length-- }), false},
		{"another Sum of cells", onRow(1, func(r *rowFrame) { r.sum ^= 1 }), true},
		{"a block's bytes are the cells'", onRow(1, func(r *rowFrame) { r.sizes, r.length = nil, r.length+r.sizes[0] }), true},
	}
}

// P12.2: what the index says may be or not, with all Sums right; blocks and cells are not looked at.
func TestOpenOfIndexes(t *testing.T) {
	for _, c := range frameCases() {
		f := frameOf(3, []api.Row{full("a"), full("b"), full("c")})
		f.rows[1] = frameOf(9, []api.Row{full("b")}).rows[0]
		c.change(&f)
		b := f.bytes()
		if !c.good {
			notOpened(t, c.name, b, api.ErrSegmentForm)
			continue
		}
		s := opens(t, b)
		if s.Size() != int(f.size) || len(s.Keys()) != len(f.rows) || s.Reads() != 0 {
			t.Errorf("%s: Size %d, Keys %.100q, Reads %d", c.name, s.Size(), s.Keys(), s.Reads())
		}
		for i, r := range f.rows {
			kind, e := s.Kind(i)
			spans, g := s.Spans(i)
			if kind != int(r.kind) || text(spans) != text(r.spans) || e != api.OK || g != api.OK || s.Keys()[i] != r.key {
				t.Errorf("%s: row %d: kind %d, %d; spans %v, %d", c.name, i, kind, e, spans, g)
			}
		}
	}
}

// P12.2: an index that ends too early, wherever it does.
func TestOpenOfShortIndexes(t *testing.T) {
	f := frameOf(3, []api.Row{full("a"), full("b")})
	index := f.index()
	opens(t, []byte(f.over(index)))
	for size := range index {
		notOpened(t, "a beginning of an index", []byte(f.over(index[:size])), api.ErrSegmentForm)
	}
	for at := range index {
		for _, c := range []string{"\x00", "\x01", "\x7f", "\xff"} {
			if c != index[at:at+1] {
				b := []byte(f.over(index[:at] + c + index[at+1:]))
				want := opensByModel(b)
				if s, e := segment.Open(b); e != want || (s == nil) != (e != api.OK) {
					t.Errorf("byte %d of the index as %x: %d, want %d", at, c, e, want)
				}
			}
		}
	}
}

// P12.2: as many rows as may be, and one more.
func TestOpenOfManyRows(t *testing.T) {
	f := frameOf(3, nil)
	for i := range api.MaxSeries + 1 {
		f.rows = append(f.rows, rowFrame{key: num(uint64(i), 2), kind: 1})
	}
	f.count = api.MaxSeries + 1
	notOpened(t, "too many rows", f.bytes(), api.ErrSegmentForm)
	f.rows, f.count = f.rows[1:], api.MaxSeries
	s := opens(t, f.bytes())
	is(t, "Check", s.Check(), api.OK)
	for i, key := range s.Keys() {
		if n, found := s.Find(key); n != i || !found {
			t.Fatalf("Find(%q): %d, %t", key, n, found)
		}
	}
}

// P12.8: any bytes at all.
func TestAnyBytes(t *testing.T) {
	rnd := rand.New(rand.NewSource(128))
	for range 20000 {
		b := make([]byte, rnd.Intn(80))
		rnd.Read(b)
		if len(b) >= 22 && rnd.Intn(4) > 0 {
			copy(b, "FSG\x01\x00\x03")
			copy(b[len(b)-12:], num(uint64(rnd.Intn(len(b)-17)), 4))
			for i := 6; i < len(b)-12; i++ {
				b[i] *= byte(rnd.Intn(2))
			}
			b = refoot(b)
		}
		if s, e := segment.Open(b); e != opensByModel(b) || (s == nil) != (e != api.OK) {
			t.Fatalf("%x: %v, %d; want %d", b, s, e, opensByModel(b))
		}
	}
}
