package segment_test

import (
	"encoding/binary"
	"fmt"
	"hash/crc32"
	"math"
	"math/rand"
	"slices"
	"strings"
	"testing"

	"fathom/api"
	"fathom/block"
	"fathom/segment"
)

// rowFrame is all that a file says of a row, right or wrong.
type rowFrame struct {
	key    string
	kind   byte
	blocks []string
	sizes  []uint32 // of the blocks, as the index has them
	spans  []api.Span
	cells  uint32 // how many
	part   string // their bytes, the Sum with them
	length uint32 // of the part, as the index has it
	sum    uint32 // of the cells, as the index has it
}

// frame is a file in its parts, right or wrong.
type frame struct {
	mark  string
	size  uint16
	rows  []rowFrame
	count uint32 // of the rows, as the index has it
	gap   string // between the last row's bytes and the index
	left  string // behind the last row in the index
}

func num(x uint64, size int) string { return string(binary.BigEndian.AppendUint64(nil, x)[8-size:]) }

func sumOf(s string) uint32 { return crc32.ChecksumIEEE([]byte(s)) }

// index tells the index's bytes.
func (f frame) index() string {
	var b strings.Builder
	b.WriteString(num(uint64(f.count), 4))
	for _, r := range f.rows {
		b.WriteString(num(uint64(len(r.key)), 2) + r.key + string([]byte{r.kind}))
		b.WriteString(num(uint64(len(r.sizes)), 4))
		for _, n := range r.sizes {
			b.WriteString(num(uint64(n), 4))
		}
		b.WriteString(num(uint64(len(r.spans)), 4))
		for _, x := range r.spans {
			b.WriteString(num(uint64(x.From), 8) + num(uint64(x.Last), 8))
		}
		b.WriteString(num(uint64(r.cells), 4) + num(uint64(r.length), 4) + num(uint64(r.sum), 4))
	}
	return b.String() + f.left
}

// bytes tells a file's bytes, with the foot's Sums right.
func (f frame) bytes() []byte { return []byte(f.over(f.index())) }

// over tells a file's bytes with any index.
func (f frame) over(index string) string {
	var b strings.Builder
	b.WriteString(f.mark + num(uint64(f.size), 2))
	head := b.String()
	for _, r := range f.rows {
		b.WriteString(strings.Join(r.blocks, "") + r.part)
	}
	foot := num(uint64(len(index)), 4) + num(uint64(sumOf(head+index)), 4)
	return b.String() + f.gap + index + foot + num(uint64(sumOf(foot)), 4)
}

// frameOf tells the frame of rows that may be, by the chapter's words.
func frameOf(size int, l []api.Row) frame {
	f := frame{mark: "\x46\x53\x47\x01", size: uint16(size), count: uint32(len(l))}
	for _, r := range l {
		x := rowFrame{key: r.Key, kind: byte(r.Kind), spans: r.Run.Spans}
		for at := 0; at < len(r.Run.Points); at += size {
			b, e := block.Encode(r.Kind, r.Run.Points[at:min(at+size, len(r.Run.Points))])
			if e != api.OK {
				panic(e)
			}
			x.addBlock(string(b))
		}
		x.setCells(r.Cells)
		f.rows = append(f.rows, x)
	}
	return f
}

func (r *rowFrame) addBlock(b string) {
	r.blocks = append(slices.Clone(r.blocks), b)
	r.sizes = append(slices.Clone(r.sizes), uint32(len(b)))
}

// setBlock puts other bytes in a block's place.
func (r *rowFrame) setBlock(n int, b string) {
	r.blocks, r.sizes = slices.Clone(r.blocks), slices.Clone(r.sizes)
	r.blocks[n], r.sizes[n] = b, uint32(len(b))
}

func (r *rowFrame) setCells(l []api.Cell) {
	var b strings.Builder
	for _, c := range l {
		b.WriteString(num(uint64(c.First), 8) + num(uint64(len(c.State)), 2) + string(c.State))
	}
	r.cells, r.part, r.length, r.sum = uint32(len(l)), "", 0, 0
	if len(l) > 0 {
		r.setPart(b.String())
	}
}

// setPart puts other bytes in the cells' place, with the right Sum.
func (r *rowFrame) setPart(s string) {
	r.sum = sumOf(s)
	r.part = s + num(uint64(r.sum), 4)
	r.length = uint32(len(r.part))
}

// clone tells a frame whose rows may be changed.
func (f frame) clone() frame {
	f.rows = slices.Clone(f.rows)
	return f
}

// is: a call's error is that.
func is(t *testing.T, what string, got, want api.Errno) {
	t.Helper()
	if got != want {
		t.Errorf("%s: %d, want %d", what, got, want)
	}
}

// opens: these bytes are a segment's.
func opens(t *testing.T, b []byte) *segment.Segment {
	t.Helper()
	s, e := segment.Open(b)
	if e != api.OK || s == nil {
		t.Fatalf("Open of %.200x: %v, %d", b, s, e)
	}
	return s
}

// notOpened: Open tells that error, and nothing beside it.
func notOpened(t *testing.T, what string, b []byte, want api.Errno) {
	t.Helper()
	if s, e := segment.Open(b); s != nil || e != want {
		t.Errorf("%s: Open tells %v, %d; want %d", what, s, e, want)
	}
}

// notBuilt: Build tells that error, and nothing beside it.
func notBuilt(t *testing.T, what string, size int, l []api.Row, want api.Errno) {
	t.Helper()
	if b, e := segment.Build(size, l); len(b) != 0 || e != want {
		t.Errorf("%s: Build tells %d bytes, %d; want %d", what, len(b), e, want)
	}
}

// builds: Build tells the bytes that the chapter says.
func builds(t *testing.T, size int, l []api.Row) []byte {
	t.Helper()
	b, e := segment.Build(size, l)
	if want := frameOf(size, l).bytes(); e != api.OK || string(b) != string(want) {
		t.Fatalf("Build(%d, %.300s): %.300x, %d; want %.300x", size, text(l), b, e, want)
	}
	return b
}

// made tells the segment of rows.
func made(t *testing.T, size int, l ...api.Row) *segment.Segment {
	t.Helper()
	return opens(t, builds(t, size, l))
}

// text tells anything by a text in which nil and empty are one, bit by bit.
func text(x any) string { return fmt.Sprintf("%x", x) }

// line tells a wide row with these times.
func line(key string, times ...int64) api.Row {
	r := api.Row{Key: key, Kind: api.KindWide}
	for _, t := range times {
		r.Run.Points = append(r.Run.Points, api.Point{T: t, V: uint64(t) * 3})
	}
	return r
}

// full tells a row with all that a row may have.
func full(key string) api.Row {
	r := line(key, -7, -2, 0, 5, 6, 9, 12)
	r.Run.Spans = []api.Span{{From: -9, Last: -9}, {From: 1, Last: 4}, {From: 6, Last: 100}}
	r.Cells = []api.Cell{{First: -10, State: []byte("one")}, {First: 0}, {First: 10, State: []byte{0, 0xff}}}
	return r
}

// all is all times.
func all() api.Span { return api.Span{From: math.MinInt64, Last: math.MaxInt64} }

// someRow tells any row that may be, with few of everything.
func someRow(rnd *rand.Rand, key string) api.Row {
	r := api.Row{Key: key, Kind: 1 + rnd.Intn(2)}
	at := int64(rnd.Intn(5)) - 3
	for range rnd.Intn(8) {
		r.Run.Points = append(r.Run.Points, api.Point{T: at, V: someValue(rnd, r.Kind)})
		at += 1 + int64(rnd.Intn(3))
	}
	at = int64(rnd.Intn(5)) - 3
	for range rnd.Intn(4) {
		last := at + int64(rnd.Intn(3))
		r.Run.Spans = append(r.Run.Spans, api.Span{From: at, Last: last})
		at = last + 2 + int64(rnd.Intn(3))
	}
	at = int64(rnd.Intn(50)) - 30
	for range rnd.Intn(4) {
		state := make([]byte, rnd.Intn(5))
		rnd.Read(state)
		r.Cells = append(r.Cells, api.Cell{First: at, State: state})
		at += 1 + int64(rnd.Intn(9))
	}
	return r
}

// someValue tells a value that a row of this kind may have, NaNs with payloads and noughts of both signs among them.
func someValue(rnd *rand.Rand, kind int) uint64 {
	l := []uint64{0, api.Neg64, api.Inf64, api.NaN64, 0xfff8000020000000, 0x3ff0000000000000, 0xc000000000000000}
	if kind == api.KindWide {
		l = append(l, 0x7ff0000000000001, 1, 0x3fb999999999999a, rnd.Uint64(), rnd.Uint64())
	}
	return l[rnd.Intn(len(l))]
}

func someRows(rnd *rand.Rand) []api.Row {
	keys := []string{"", "\x00", "a", "a\x00", "ab", "b", "\xff", "\xff\x01"}
	l := []api.Row{}
	for _, key := range keys {
		if rnd.Intn(3) == 0 {
			l = append(l, someRow(rnd, key))
		}
	}
	return l
}
