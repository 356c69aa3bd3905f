package block_test

import (
	"bytes"
	"math"
	"math/rand"
	"testing"

	"fathom/api"
	"fathom/block"
)

// The chapter's example 1, written out by hand: as a decimal 1.5 is 15 at 1: 00001 00000000 00011110.
func TestExampleOfOnePoint(t *testing.T) {
	b := encodes(t, api.KindWide, []api.Point{{T: 5, V: 0x3ff8000000000000}})
	front := []byte{0xb5, 1, 6, 0, 1, 0, 0, 0, 0, 0, 0, 0, 0, 0, 5, 0, 0, 0, 0, 0, 0, 0, 5, 0x3f, 0xf8, 0, 0, 0, 0, 0, 0, 0x3f, 0xf8, 0, 0, 0, 0, 0, 0, 0, 0, 0, 8, 0, 0, 0, 3}
	parts := []byte{0, 0, 0, 0, 0, 0, 0, 5, 0x08, 0x00, 0xf0}
	if len(b) != 66 || !bytes.Equal(b[:47], front) || !bytes.Equal(b[51:62], parts) {
		t.Errorf("%x; want %x and %x with their Sums", b, front, parts)
	}
	want := api.BlockHead{Kind: api.KindWide, Count: 1, First: 5, Last: 5, Least: 0x3ff8000000000000, Greatest: 0x3ff8000000000000, Bytes: len(b)}
	if h, e := block.Head(b); h != want || e != api.OK {
		t.Errorf("Head: %v, %d", h, e)
	}
	for _, v := range []uint64{0x7ff8000000000000, 0xfff0000000000005, 0x7ff0000000000001, 0xffffffffffffffff, 0x7ffc00000000abcd} {
		l := []api.Point{{T: 5, V: v}}
		b := encodes(t, api.KindWide, l)
		if h, _ := block.Head(b); h.Nans != 1 || h.Least != 0x7ff8000000000000 || h.Greatest != 0x7ff8000000000000 {
			t.Errorf("of %x: %v", v, h)
		}
		if _, m, e := block.Decode(b); e != api.OK || len(m) != 1 || m[0] != l[0] {
			t.Errorf("of %x: %x, %d", v, m, e)
		}
	}
}

// The chapter's example 2.
func TestExamplesOfHeads(t *testing.T) {
	for _, l := range [][]api.Point{{{T: 1, V: 0}, {T: 2, V: api.Neg64}}, {{T: 1, V: api.Neg64}, {T: 2, V: 0}}} {
		if h, e := block.HeadOf(api.KindWide, l); e != api.OK || h.Least != 0x8000000000000000 || h.Greatest != 0 {
			t.Errorf("%x: %v, %d", l, h, e)
		}
	}
	notEncoded(t, api.KindNarrow, []api.Point{{T: 5, V: 0x3fb999999999999a}}, api.ErrBlockNarrow)
	notEncoded(t, 0, nil, api.ErrBlockKind)
	notEncoded(t, api.KindWide, nil, api.ErrBlockCount)
	notEncoded(t, api.KindWide, []api.Point{{T: 5}, {T: 5}}, api.ErrBlockTimes)
}

// P9.1, P9.4: points of all sorts have the chapter's bytes and head, there and back.
func TestEncodeLaysTheForm(t *testing.T) {
	codings := map[byte]int{}
	for _, kind := range kinds() {
		for _, l := range samples(kind) {
			codings[encodes(t, kind, l)[2]]++
		}
	}
	for coding := byte(1); coding <= 6; coding++ {
		if codings[coding] == 0 {
			t.Errorf("no sample has coding %d", coding)
		}
	}
}

// P9.1: from one point to as many as may be.
func TestEncodeCounts(t *testing.T) {
	rnd := rand.New(rand.NewSource(91))
	for _, kind := range kinds() {
		for _, n := range []int{1, 2, 255, 256, 257, api.MaxBlock - 1, api.MaxBlock} {
			encodes(t, kind, filled(n, api.NaN64))
			encodes(t, kind, anyPoints(rnd, kind, n))
		}
		for _, n := range []int{0, api.MaxBlock + 1, api.MaxBlock + 2, 1<<16 + 1, 1 << 17} {
			notEncoded(t, kind, filled(n, 0), api.ErrBlockCount)
		}
		notEncoded(t, kind, []api.Point{}, api.ErrBlockCount)
	}
}

// P9.1: no kind but the two.
func TestEncodeKinds(t *testing.T) {
	for _, kind := range []int{-1, 0, 3, 4, 256 + 1, 256 + 2, 1<<32 + 1, math.MinInt, math.MaxInt} {
		for _, l := range [][]api.Point{nil, filled(1, 0), filled(9, 0x3fb999999999999a), make([]api.Point, 2), make([]api.Point, api.MaxBlock+1)} {
			notEncoded(t, kind, l, api.ErrBlockKind)
		}
	}
}

// P9.1: one time that does not rise, wherever it stands, at the ends of all times too.
func TestEncodeTimes(t *testing.T) {
	for _, kind := range kinds() {
		for _, n := range []int{2, 3, 40, api.MaxBlock} {
			for _, at := range []int{1, 2, n / 2, n - 1} {
				l := filled(n, 0)
				if at == 0 || at >= n {
					continue
				}
				l[at].T = l[at-1].T
				notEncoded(t, kind, l, api.ErrBlockTimes)
				l[at].T = l[at-1].T - 1
				notEncoded(t, kind, l, api.ErrBlockTimes)
			}
		}
		for _, pair := range [][2]int64{{math.MaxInt64, math.MinInt64}, {0, math.MinInt64}, {math.MaxInt64, 0}, {math.MaxInt64, math.MaxInt64}, {math.MinInt64, math.MinInt64}, {0, -1}} {
			notEncoded(t, kind, []api.Point{{T: pair[0]}, {T: pair[1]}}, api.ErrBlockTimes)
		}
		encodes(t, kind, []api.Point{{T: math.MinInt64}, {T: math.MinInt64 + 1}, {T: -1}, {T: 0}, {T: math.MaxInt64 - 1}, {T: math.MaxInt64}})
		encodes(t, kind, []api.Point{{T: math.MinInt64}})
		encodes(t, kind, []api.Point{{T: math.MaxInt64}})
	}
}

// P9.1: in a narrow block each value is a binary32's; in a wide one any is taken.
func TestEncodeNarrow(t *testing.T) {
	for _, v := range []uint64{
		0x3fb999999999999a, 0x3ff0000000000001, 0x3ff0000010000000, 0x3fb99999a0000001, // between two binary32s
		0x47efffffe0000001, 0x47effffff0000000, 0x47f0000000000000, 0x7fefffffffffffff, // beyond the greatest
		0x3690000000000000, 0x3680000000000000, 0x36a0000000000001, 1, 0xfffffffffffff, // below the least
		0x7ff0000000000001, 0x7ff0000020000000, 0x7ff7ffffe0000000, 0x7ff4000000000000, // signalling
		0x7ff8000000000001, 0x7ff8000010000000, 0x7fffffffffffffff, // a payload that is too long
	} {
		for _, v := range []uint64{v, v | api.Neg64} {
			notEncoded(t, api.KindNarrow, []api.Point{{T: 5, V: v}}, api.ErrBlockNarrow)
			for _, at := range []int{0, 1, 2} {
				l := filled(3, 0x3ff0000000000000)
				l[at].V = v
				notEncoded(t, api.KindNarrow, l, api.ErrBlockNarrow)
				encodes(t, api.KindWide, l)
			}
		}
	}
	l := filled(api.MaxBlock, 0)
	l[api.MaxBlock-1].V = 1
	notEncoded(t, api.KindNarrow, l, api.ErrBlockNarrow)
	for _, v := range []uint64{0x3fb99999a0000000, 0x3ff0000020000000, 0x47efffffe0000000, 0x36a0000000000000, 0x380fffffc0000000, 0x7ff0000000000000, 0x7ff8000000000000, 0x7ff8000020000000, 0x7fffffffe0000000} {
		encodes(t, api.KindNarrow, []api.Point{{T: 5, V: v}, {T: 6, V: v | api.Neg64}})
	}
}

// P9.1: of several errors the first one that is listed.
func TestEncodeErrorsInOrder(t *testing.T) {
	odd := uint64(0x3fb999999999999a)
	many := make([]api.Point, api.MaxBlock+1)
	many[0].V = odd
	notEncoded(t, 3, many, api.ErrBlockKind)
	notEncoded(t, api.KindNarrow, many, api.ErrBlockCount)
	notEncoded(t, api.KindNarrow, many[:api.MaxBlock], api.ErrBlockTimes)
	notEncoded(t, api.KindNarrow, []api.Point{{T: 1, V: odd}, {T: 2, V: odd}, {T: 2}}, api.ErrBlockTimes)
	notEncoded(t, api.KindNarrow, []api.Point{{T: 1, V: odd}, {T: 2, V: odd}, {T: 3}}, api.ErrBlockNarrow)
	notEncoded(t, 3, []api.Point{{T: 1, V: odd}, {T: 1}}, api.ErrBlockKind)
}

// P9.1: the least and the greatest are told by the order of all patterns, NaNs left out, wherever they stand.
func TestLeastAndGreatest(t *testing.T) {
	inf, minus := uint64(api.Inf64), uint64(api.Inf64|api.Neg64)
	for _, c := range []struct {
		values          []uint64
		nans            int
		least, greatest uint64
	}{
		{[]uint64{0}, 0, 0, 0},
		{[]uint64{api.Neg64}, 0, api.Neg64, api.Neg64},
		{[]uint64{0, 0, api.Neg64, 0}, 0, api.Neg64, 0},
		{[]uint64{api.NaN64, 5, api.NaN64 | api.Neg64}, 2, 5, 5},
		{[]uint64{api.NaN64, api.NaN64 | api.Neg64, 0xfff0000000000001}, 3, api.NaN64, api.NaN64},
		{[]uint64{inf, minus, 0}, 0, minus, inf},
		{[]uint64{inf, api.NaN64}, 1, inf, inf},
		{[]uint64{minus, inf + 1}, 1, minus, minus},
		{[]uint64{minus, minus + 1, inf, inf + 1}, 2, minus, inf},
		{[]uint64{api.Neg64 | 1, api.Neg64 | 2, api.Neg64 | 3}, 0, api.Neg64 | 3, api.Neg64 | 1},
		{[]uint64{3, 1, 2}, 0, 1, 3},
		{[]uint64{0x3ff0000000000000, 0xbff0000000000000, 0x4000000000000000, 0xc000000000000000}, 0, 0xc000000000000000, 0x4000000000000000},
	} {
		l := filled(len(c.values), 0)
		for i, v := range c.values {
			l[i].V = v
		}
		h, e := block.HeadOf(api.KindWide, l)
		if e != api.OK || h.Nans != c.nans || h.Least != c.least || h.Greatest != c.greatest {
			t.Errorf("%x: %v, %d", c.values, h, e)
		}
		encodes(t, api.KindWide, l)
	}
	narrow := []api.Point{{T: 1, V: 0xbfb99999a0000000}, {T: 2, V: 0x36a0000000000000}, {T: 3, V: 0x7ff8000020000000}}
	if h, e := block.HeadOf(api.KindNarrow, narrow); e != api.OK || h.Nans != 1 || h.Least != 0xbfb99999a0000000 || h.Greatest != 0x36a0000000000000 {
		t.Errorf("of narrow ones: %x, %d", h, e)
	}
}
