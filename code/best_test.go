package code_test

import (
	"bytes"
	"math"
	"slices"
	"testing"

	"fathom/api"
	"fathom/code"
)

// bestOf fails unless Best tells this kind, and what Pack tells by it.
func bestOf[T word](t *testing.T, l []T, want int) {
	t.Helper()
	kind, b, e := code.Best(l)
	p, f := code.Pack(want, l)
	if e != api.OK || kind != want || f != api.OK || !bytes.Equal(b, p) {
		t.Errorf("Best(%x): %d, %x, %d; want %d, %x", l, kind, b, e, want, p)
	}
}

// sizesAre fails unless Sizes tells these.
func sizesAre[T word](t *testing.T, l []T, want ...int) {
	t.Helper()
	if sizes, e := code.Sizes(l); e != api.OK || !slices.Equal(sizes, want) {
		t.Errorf("Sizes(%x): %d, %d; want %d", l, sizes, e, want)
	}
}

// The chapter's examples 3 to 5, as far as Sizes and Best tell them.
func TestExamplesOfBest(t *testing.T) {
	bestOf(t, []uint64{10, 20, 30, 41}, api.CodeStride)
	bestOf(t, []uint64{0}, api.CodeStride)
	bestOf(t, []uint64{}, api.CodePlain)
	bestOf[uint64](t, nil, api.CodePlain)
	sizesAre(t, []uint64{0}, 8, 8, 9, 9, 1, 3)
	sizesAre(t, []uint32{0}, 4, 4, 5, 5, 1, 3)
	sizesAre(t, []uint64{}, 0, 0, 0, 0, 0, 0)
	sizesAre[uint32](t, nil, 0, 0, 0, 0, 0, 0)
	if l, _ := code.Sizes([]uint64{7, 7, 7, 9}); l[2] != 18 || l[3] != 18 {
		t.Errorf("example 3: %d", l)
	}
	if l, _ := code.Sizes(rising[uint64](257)); l[3] != -1 {
		t.Errorf("257 unlike values: %d", l)
	}
	if l, _ := code.Sizes([]uint32{0x3fc00000, 0x40200000, 0x40100000}); l[0] != 12 || l[5] != 7 {
		t.Errorf("example 1: %d", l)
	}
}

// P8.3: Sizes and Best say what Pack tells, of each sort of column.
func TestSizesAndBest(t *testing.T) { both(t, sizesAndBest[uint64], sizesAndBest[uint32]) }

func sizesAndBest[T word](t *testing.T) {
	wins := map[int]int{}
	for _, l := range samples[T]() {
		sizes, best := []int{}, 0
		for _, kind := range kinds() {
			size := -1
			if row, takes := rowOfColumn(kind, l); takes {
				size = (len(row) + 7) / 8
			}
			sizes = append(sizes, size)
			if best == 0 || size >= 0 && size < sizes[best-1] {
				best = kind
			}
		}
		sizesAre(t, l, sizes...)
		bestOf(t, l, best)
		wins[best]++
		// P8.4
		if _, b, _ := code.Best(l); len(b) > len(l)*wideOf[T]()/8 {
			t.Errorf("%x: %d bytes", l, len(b))
		}
	}
	for _, kind := range kinds() {
		if wins[kind] == 0 {
			t.Errorf("kind %d is never the best", kind)
		}
	}
}

// P8.3: of several kinds with as many bytes the least is told.
func TestBestOfEqual(t *testing.T) {
	far := math.Float64bits(math.Pi)
	bestOf(t, []uint64{far}, api.CodePlain)
	sizesAre(t, []uint64{far}, 8, 8, 9, 9, 10, 11)
	run := slices.Repeat([]uint64{far}, 8)
	sizesAre(t, run, 64, 9, 9, 9, 17, 74)
	bestOf(t, run, api.CodeXor)
	long := slices.Repeat([]uint64{far}, 10)
	sizesAre(t, long, 80, 10, 9, 9, 19, 92)
	bestOf(t, long, api.CodeRuns)
	sizesAre(t, []uint64{7, 7, 7, 9}, 32, 11, 18, 18, 4, 38)
}

// P8.3: too many values, and as many as may be.
func TestSizesAndBestCount(t *testing.T) {
	both(t, sizesAndBestCount[uint64], sizesAndBestCount[uint32])
}

func sizesAndBestCount[T word](t *testing.T) {
	for _, l := range [][]T{make([]T, api.MaxColumn+1), rising[T](api.MaxColumn + 1), make([]T, 1<<20)} {
		if sizes, e := code.Sizes(l); len(sizes) != 0 || e != api.ErrCodeCount {
			t.Errorf("Sizes of %d: %d, %d", len(l), sizes, e)
		}
		if kind, b, e := code.Best(l); kind != 0 || len(b) != 0 || e != api.ErrCodeCount {
			t.Errorf("Best of %d: %d, %x, %d", len(l), kind, b, e)
		}
	}
	if sizes, e := code.Sizes(make([]T, api.MaxColumn)); len(sizes) != 6 || e != api.OK {
		t.Errorf("Sizes of as many as may be: %d, %d", sizes, e)
	}
	bestOf(t, make([]T, api.MaxColumn), api.CodeDict)
}
