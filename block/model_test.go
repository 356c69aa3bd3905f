package block_test

import (
	"bytes"
	"encoding/binary"
	"hash/crc32"
	"math"
	"slices"
	"testing"

	"fathom/api"
	"fathom/block"
	"fathom/code"
	"fathom/times"
)

// The model: a block's parts as the chapter's table lists them, laid with the library's means alone.
type frame struct {
	mark, kind, coding byte
	count, nans        uint16
	first, last        int64
	least, greatest    uint64
	timesSize          uint32
	valuesSize         uint32
	times, values      []byte
}

// headBytes are the frame's first 51, with the right Sum.
func (f frame) headBytes() []byte {
	b := []byte{f.mark, f.kind, f.coding}
	b = binary.BigEndian.AppendUint16(b, f.count)
	b = binary.BigEndian.AppendUint16(b, f.nans)
	b = binary.BigEndian.AppendUint64(b, uint64(f.first))
	b = binary.BigEndian.AppendUint64(b, uint64(f.last))
	b = binary.BigEndian.AppendUint64(b, f.least)
	b = binary.BigEndian.AppendUint64(b, f.greatest)
	b = binary.BigEndian.AppendUint32(b, f.timesSize)
	b = binary.BigEndian.AppendUint32(b, f.valuesSize)
	return binary.BigEndian.AppendUint32(b, crc32.ChecksumIEEE(b))
}

// bytes are all of the frame, with the right Sums.
func (f frame) bytes() []byte {
	both := append(slices.Clone(f.times), f.values...)
	return append(f.headBytes(), binary.BigEndian.AppendUint32(both, crc32.ChecksumIEEE(both))...)
}

// says is what Head tells of the frame.
func (f frame) says() api.BlockHead {
	return api.BlockHead{Kind: int(f.kind), Count: int(f.count), Nans: int(f.nans), First: f.first, Last: f.last, Least: f.least, Greatest: f.greatest, Bytes: 55 + int(f.timesSize) + int(f.valuesSize)}
}

// with tells the frame with other bytes of times and values.
func (f frame) with(times, values []byte) frame {
	f.times, f.values = times, values
	f.timesSize, f.valuesSize = uint32(len(times)), uint32(len(values))
	return f
}

// thin rounds to a binary32; payloads by bits, as a float variable does with them what it likes.
func thin(v uint64) uint32 {
	if math.IsNaN(math.Float64frombits(v)) {
		return uint32(v>>63)<<31 | 0x7fc00000 | uint32(v>>29)&0x3fffff
	}
	return math.Float32bits(float32(math.Float64frombits(v)))
}

func thick(v uint32) uint64 {
	f := math.Float32frombits(v)
	if f != f {
		return uint64(v>>31)<<63 | 0x7ff0000000000000 | uint64(v&0x7fffff)<<29
	}
	return math.Float64bits(float64(f))
}

// below tells whether a number stands ahead of another one in the order of all patterns.
func below(a, b uint64) bool {
	x, y := math.Float64frombits(a), math.Float64frombits(b)
	return x < y || x == y && math.Signbit(x) && !math.Signbit(y)
}

// frameOf tells the frame of points that a block may have.
func frameOf(kind int, l []api.Point) frame {
	f := frame{mark: 0xb5, kind: byte(kind), count: uint16(len(l)), first: l[0].T, last: l[len(l)-1].T, least: 0x7ff8000000000000, greatest: 0x7ff8000000000000}
	rising, values, narrow := []int64{}, []uint64{}, []uint32{}
	for _, p := range l {
		rising, values, narrow = append(rising, p.T), append(values, p.V), append(narrow, thin(p.V))
		isNaN := math.IsNaN(math.Float64frombits(p.V))
		if isNaN {
			f.nans++
			continue
		}
		if f.least == 0x7ff8000000000000 || below(p.V, f.least) {
			f.least = p.V
		}
		if f.greatest == 0x7ff8000000000000 || below(f.greatest, p.V) {
			f.greatest = p.V
		}
	}
	laid, _ := times.Pack(rising)
	coding, best := leastOf(values)
	if kind == 2 {
		coding, best = leastOf(narrow)
	}
	f.coding = byte(coding)
	return f.with(laid, best)
}

// leastOf tells the coding of the fewest bytes, the first of several, and these.
func leastOf[T uint64 | uint32](l []T) (coding int, b []byte) {
	for kind := 1; kind <= 6; kind++ {
		c, e := code.Pack(kind, l)
		if e == api.OK && (coding == 0 || len(c) < len(b)) {
			coding, b = kind, c
		}
	}
	return coding, b
}

// wanted tells what Decode says of bytes, by the chapter's words.
func wanted(b []byte) (kind int, l []api.Point, e api.Errno) {
	h, e := wantedHead(b)
	if e != api.OK {
		return 0, nil, e
	}
	switch {
	case len(b) < h.Bytes:
		return 0, nil, api.ErrBlockShort
	case len(b) > h.Bytes:
		return 0, nil, api.ErrBlockLeft
	case crc32.ChecksumIEEE(b[51:len(b)-4]) != binary.BigEndian.Uint32(b[len(b)-4:]):
		return 0, nil, api.ErrBlockSum
	}
	at := 51 + int(binary.BigEndian.Uint32(b[39:]))
	rising, e := times.Unpack(b[51:at], h.Count)
	if e != api.OK {
		return 0, nil, api.ErrBlockForm
	}
	values, e := wantedValues(h.Kind, int(b[2]), b[at:len(b)-4], h.Count)
	if e != api.OK {
		return 0, nil, api.ErrBlockForm
	}
	for i := range rising {
		l = append(l, api.Point{T: rising[i], V: values[i]})
	}
	if refusal(h.Kind, l) != api.OK || !bytes.Equal(frameOf(h.Kind, l).bytes(), b) {
		return 0, nil, api.ErrBlockForm
	}
	return h.Kind, l, api.OK
}

func wantedValues(kind, coding int, b []byte, n int) (l []uint64, e api.Errno) {
	if kind == 1 {
		return code.Unpack[uint64](coding, b, n)
	}
	narrow, e := code.Unpack[uint32](coding, b, n)
	for _, v := range narrow {
		l = append(l, thick(v))
	}
	return l, e
}

// wantedHead tells what Head says of bytes.
func wantedHead(b []byte) (api.BlockHead, api.Errno) {
	none := api.BlockHead{}
	if len(b) < 51 {
		return none, api.ErrBlockShort
	}
	if b[0] != 0xb5 {
		return none, api.ErrBlockForm
	}
	if crc32.ChecksumIEEE(b[:47]) != binary.BigEndian.Uint32(b[47:]) {
		return none, api.ErrBlockSum
	}
	f := frame{mark: b[0], kind: b[1], coding: b[2]}
	f.count, f.nans = binary.BigEndian.Uint16(b[3:]), binary.BigEndian.Uint16(b[5:])
	f.first, f.last = int64(binary.BigEndian.Uint64(b[7:])), int64(binary.BigEndian.Uint64(b[15:]))
	f.least, f.greatest = binary.BigEndian.Uint64(b[23:]), binary.BigEndian.Uint64(b[31:])
	f.timesSize, f.valuesSize = binary.BigEndian.Uint32(b[39:]), binary.BigEndian.Uint32(b[43:])
	switch {
	case f.kind != 1 && f.kind != 2, f.coding < 1, f.coding > 6, f.count < 1, f.count > 4096, f.nans > f.count:
		return none, api.ErrBlockForm
	case f.count == 1 && f.first != f.last, f.count > 1 && f.last <= f.first:
		return none, api.ErrBlockForm
	}
	return f.says(), api.OK
}

// refusal tells Encode's error, by the chapter's words.
func refusal(kind int, l []api.Point) api.Errno {
	if kind != 1 && kind != 2 {
		return api.ErrBlockKind
	}
	if len(l) == 0 || len(l) > 4096 {
		return api.ErrBlockCount
	}
	for i := 1; i < len(l); i++ {
		if l[i-1].T >= l[i].T {
			return api.ErrBlockTimes
		}
	}
	for _, p := range l {
		if kind == 2 && thick(thin(p.V)) != p.V {
			return api.ErrBlockNarrow
		}
	}
	return api.OK
}

// encodes fails unless Encode, HeadOf, Head and Decode tell of points what the model does; it tells the block.
func encodes(t *testing.T, kind int, l []api.Point) []byte {
	t.Helper()
	f := frameOf(kind, l)
	want := f.bytes()
	b, e := block.Encode(kind, l)
	if e != api.OK || !bytes.Equal(b, want) {
		t.Fatalf("Encode(%d, %x): %x, %d; want %x", kind, l, b, e, want)
	}
	if h, e := block.HeadOf(kind, l); e != api.OK || h != f.says() {
		t.Fatalf("HeadOf(%d, %x): %v, %d; want %v", kind, l, h, e, f.says())
	}
	if h, e := block.Head(b); e != api.OK || h != f.says() || h.Bytes != len(b) {
		t.Fatalf("Head of %x: %v, %d; want %v", b, h, e, f.says())
	}
	if k, m, e := block.Decode(b); e != api.OK || k != kind || !slices.Equal(m, l) {
		t.Fatalf("Decode of %x: %d, %x, %d; want %x", b, k, m, e, l)
	}
	return b
}

// notEncoded fails unless Encode and HeadOf refuse points with an error.
func notEncoded(t *testing.T, kind int, l []api.Point, want api.Errno) {
	t.Helper()
	if b, e := block.Encode(kind, l); e != want || len(b) != 0 {
		t.Errorf("Encode(%d, %d points): %x, %d; want %d", kind, len(l), b, e, want)
	}
	if h, e := block.HeadOf(kind, l); e != want || h != (api.BlockHead{}) {
		t.Errorf("HeadOf(%d, %d points): %v, %d; want %d", kind, len(l), h, e, want)
	}
}

// refused fails unless Decode refuses bytes with an error.
func refused(t *testing.T, what string, b []byte, want api.Errno) {
	t.Helper()
	if kind, l, e := block.Decode(b); e != want || kind != 0 || len(l) != 0 {
		t.Errorf("%s: Decode of %x: %d, %x, %d; want %d", what, b, kind, l, e, want)
	}
}

// headRefused fails unless Head and Decode refuse bytes with an error.
func headRefused(t *testing.T, what string, b []byte, want api.Errno) {
	t.Helper()
	if h, e := block.Head(b); e != want || h != (api.BlockHead{}) {
		t.Errorf("%s: Head of %x: %v, %d; want %d", what, b, h, e, want)
	}
	refused(t, what, b, want)
}

// judged fails unless Decode and Head tell of bytes what the model does, and Encode the same bytes of what was taken; it tells the error.
func judged(t *testing.T, what string, b []byte) api.Errno {
	t.Helper()
	want, wantE := wantedHead(b)
	if h, e := block.Head(b); h != want || e != wantE {
		t.Fatalf("%s: Head of %x: %v, %d; want %v, %d", what, b, h, e, want, wantE)
	}
	wantKind, wantL, wantE := wanted(b)
	kind, l, e := block.Decode(b)
	if kind != wantKind || e != wantE || !slices.Equal(l, wantL) {
		t.Fatalf("%s: Decode of %x: %d, %x, %d; want %d, %x, %d", what, b, kind, l, e, wantKind, wantL, wantE)
	}
	if e == api.OK {
		if again, e := block.Encode(kind, l); e != api.OK || !bytes.Equal(again, b) {
			t.Fatalf("%s: of %x: %x, of these %x, %d", what, b, l, again, e)
		}
	}
	return e
}
