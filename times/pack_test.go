package times_test

import (
	"bytes"
	"slices"
	"testing"

	"fathom/api"
	"fathom/times"
)

// The chapter's examples 1 to 3, written out by hand.
func TestExamplesOfPack(t *testing.T) {
	for _, c := range []struct {
		l []int64
		b []byte
	}{
		{[]int64{10, 20, 30, 40}, []byte{0, 0, 0, 0, 0, 0, 0, 0x0a, 0x89, 0x80}},
		{[]int64{-1}, []byte{0xff, 0xff, 0xff, 0xff, 0xff, 0xff, 0xff, 0xff}},
		{nil, nil},
		{[]int64{least, greatest}, []byte{0x80, 0, 0, 0, 0, 0, 0, 0, 0x80, 0}},
		{[]int64{least, 0, greatest}, []byte{0x80, 0, 0, 0, 0, 0, 0, 0, 0xff, 0xff, 0xff, 0xff, 0xff, 0xff, 0xff, 0xff, 0xf8, 0}},
	} {
		if b, e := times.Pack(c.l); e != api.OK || !bytes.Equal(b, c.b) {
			t.Errorf("Pack(%d): %x, %d; want %x", c.l, b, e, c.b)
		}
		if l, e := times.Unpack(c.b, len(c.l)); e != api.OK || !slices.Equal(l, c.l) {
			t.Errorf("Unpack(%x, %d): %d, %d", c.b, len(c.l), l, e)
		}
	}
}

// P6.1, P6.2, P6.3: the chapter's bits, there and back.
func TestPackLaysTheBits(t *testing.T) {
	for _, l := range samples() {
		packs(t, l)
	}
}

// P6.1: each row of the table at its ends, for a first bend and for one behind it.
func TestPackAtTheEndsOfTheTable(t *testing.T) {
	seen := 0
	for _, u := range edgeNumbers() {
		bend := bendOf(u)
		if first := []int64{least, int64(1<<63 + bend)}; bend != 0 {
			packs(t, first)
			if row := rowOfTimes(first); row[64:] != rowOfZigzag(u) {
				t.Fatalf("the row of %d is not tried", u)
			}
			seen++
		}
		for _, step := range []uint64{1, 1 << 20, 1 << 40, 1 << 62} {
			second := []int64{least, int64(1<<63 + step), int64(1<<63 + step + step + bend)}
			if second[2] <= second[1] {
				continue
			}
			packs(t, second)
			if row := rowOfTimes(second); row[len(row)-len(rowOfZigzag(u)):] != rowOfZigzag(u) {
				t.Fatalf("the row of %d is not tried behind %d", u, step)
			}
			seen++
		}
	}
	if seen < 100 {
		t.Errorf("only %d rows of times", seen)
	}
}

// P6.1, P6.2: each number of the first two rows.
func TestPackEachSmallBend(t *testing.T) {
	for u := uint64(0); u <= 4300; u++ {
		d := 1<<30 + bendOf(u)
		packs(t, []int64{-5, -5 + 1<<30, -5 + 1<<30 + int64(d)})
	}
}

// P6.1: so many times may be, and no more; that goes ahead of their order.
func TestPackCounts(t *testing.T) {
	l := make([]int64, api.MaxColumn+2)
	for i := range l {
		l[i] = int64(i*i) - 77
	}
	packs(t, l[:api.MaxColumn-1])
	packs(t, l[:api.MaxColumn])
	for _, many := range [][]int64{l[:api.MaxColumn+1], l, make([]int64, api.MaxColumn+1), make([]int64, 1<<20)} {
		if b, e := times.Pack(many); len(b) != 0 || e != api.ErrTimesCount {
			t.Errorf("of %d times: %x, %d", len(many), b, e)
		}
	}
}

// P6.1: times that do not rise, wherever.
func TestPackWantsRisingTimes(t *testing.T) {
	for _, l := range [][]int64{{1, 1}, {2, 1}, {1, 2, 2}, {1, 2, 1}, {0, 0}, {0, -1}, {least, least}, {greatest, greatest}, {greatest, least}, {0, least}, {greatest, -1}, make([]int64, api.MaxColumn)} {
		if b, e := times.Pack(l); len(b) != 0 || e != api.ErrTimesOrder {
			t.Errorf("Pack(%d): %x, %d", l, b, e)
		}
	}
	for at := 1; at < 100; at++ {
		for _, less := range []int64{0, 1, 50, greatest} {
			l := make([]int64, 100)
			for i := range l {
				l[i] = int64(i) * 10
			}
			l[at] = l[at-1] - less
			if b, e := times.Pack(l); len(b) != 0 || e != api.ErrTimesOrder {
				t.Fatalf("%d less at %d: %x, %d", less, at, b, e)
			}
		}
	}
}

// P6.3: times at equal distances take the first time's bits, the first bend's, and one for each other one.
func TestEqualDistancesTakeOneBit(t *testing.T) {
	for _, step := range []int64{1, 64, 65, 1000, 2112, 2113, 60000, 526400, 526401, 1 << 50} {
		for _, n := range []int{2, 3, 8, 9, 10, 100, api.MaxColumn} {
			l := make([]int64, n)
			for i := range l {
				l[i] = least + int64(i)*step
			}
			b, _ := times.Pack(l)
			if size := 64 + len(rowOfZigzag(2*uint64(step))) + n - 2; len(b) != (size+7)/8 {
				t.Errorf("%d times every %d: %d bytes, not those of %d bits", n, step, len(b), size)
			}
			packs(t, l)
		}
	}
}

// P6.3: times that are all moved by the same have the same bytes behind the first eight.
func TestMovedTimes(t *testing.T) {
	for _, l := range samples() {
		if len(l) == 0 {
			continue
		}
		b, _ := times.Pack(l)
		for _, by := range []int64{1, -1, 1 << 20, -1 << 40, least - l[0], greatest - l[len(l)-1]} {
			moved := make([]int64, len(l))
			for i := range l {
				moved[i] = l[i] + by
			}
			if !slices.IsSorted(moved) {
				continue
			}
			m, e := times.Pack(moved)
			if e != api.OK || !bytes.Equal(m[8:], b[8:]) || !bytes.Equal(m[:8], bytesOf(rowOfTime(moved[0]))) {
				t.Fatalf("%d moved by %d: %x, %d, not %x", l, by, m, e, b)
			}
		}
	}
}

// P6.3: a row's bytes begin as those of each of its beginnings, but for the spare bits.
func TestBeginnings(t *testing.T) {
	for _, l := range samples() {
		b, _ := times.Pack(l)
		for n := range min(len(l), 50) {
			part, e := times.Pack(l[:n])
			size := len(rowOfTimes(l[:n]))
			if e != api.OK || len(part) != (size+7)/8 || !bytes.Equal(part[:size/8], b[:size/8]) {
				t.Fatalf("the first %d of %d: %x, %d, not as %x", n, l, part, e, b)
			}
			if rest := size % 8; rest > 0 && (part[size/8]^b[size/8])>>(8-rest) != 0 {
				t.Fatalf("the first %d of %d: %x, not as %x", n, l, part, b)
			}
		}
	}
}
