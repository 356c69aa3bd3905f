package times_test

import (
	"bytes"
	"math"
	"math/rand"
	"slices"
	"strings"
	"testing"

	"fathom/api"
	"fathom/times"
)

// The chapter's examples 4 and 5.
func TestExamplesOfUnpack(t *testing.T) {
	for _, l := range [][]int64{{1, 1}, {2, 1}} {
		if b, e := times.Pack(l); len(b) != 0 || e != api.ErrTimesOrder {
			t.Errorf("Pack(%d): %x, %d", l, b, e)
		}
	}
	refused(t, "none of one", nil, 1, api.ErrTimesForm)
	refused(t, "none of none", nil, 0, api.OK)
	b := []byte{0, 0, 0, 0, 0, 0, 0, 5}
	refused(t, "fewer than none", b, -1, api.ErrTimesCount)
	refused(t, "too many", b, 4097, api.ErrTimesCount)
	five := rowOfTime(5)
	refused(t, "7 in 64 bits", bytesOf(five+"1111"+rowOfNumber(7, 64)), 2, api.ErrTimesForm)
	refused(t, "a difference of 0", bytesOf(five+"0"), 2, api.ErrTimesForm)
}

// P6.2: n is looked at first, whatever the bytes are.
func TestUnpackCounts(t *testing.T) {
	good := bytesOf(rowOfTimes([]int64{10, 20, 30, 40}))
	for _, n := range []int{-1, math.MinInt, math.MinInt32, api.MaxColumn + 1, 1 << 32, math.MaxInt} {
		for _, b := range [][]byte{nil, {0}, good, bytes.Repeat([]byte{0xff}, 100), make([]byte, 1<<20)} {
			refused(t, "a count that may not be", b, n, api.ErrTimesCount)
		}
	}
	refused(t, "as many as may be, of few bytes", good, api.MaxColumn, api.ErrTimesForm)
	refused(t, "as many as may be, of none", nil, api.MaxColumn, api.ErrTimesForm)
}

// P6.2: of no times there are no bytes.
func TestUnpackNone(t *testing.T) {
	refused(t, "none", []byte{}, 0, api.OK)
	for _, b := range [][]byte{{0}, {1}, {0x80}, {0, 0}, make([]byte, 8), make([]byte, 1000)} {
		refused(t, "of no times", b, 0, api.ErrTimesForm)
	}
}

// P6.2: of one time there are eight bytes.
func TestUnpackOne(t *testing.T) {
	for size := range 20 {
		if size != 8 {
			refused(t, "of one time", make([]byte, size), 1, api.ErrTimesForm)
			refused(t, "of one time", bytes.Repeat([]byte{0xff}, size), 1, api.ErrTimesForm)
		}
	}
	for _, x := range []int64{0, 1, -1, 255, 1 << 40, least, greatest} {
		packs(t, []int64{x})
	}
}

// P6.2: a number that stands in the last row, though one ahead holds it, is refused, ahead of others and behind them.
func TestUnpackWantsTheShortestForm(t *testing.T) {
	for _, u := range []uint64{0, 1, 2, 7, 128, 129, 130, 4224, 4225, 4226, 526400, 1052799, 1052800} {
		long := "1111" + rowOfNumber(u, 64)
		for _, c := range []struct {
			row string
			n   int
		}{
			{rowOfTime(5) + long, 2},
			{rowOfTime(5) + long + "0", 3},
			{rowOfTime(5) + rowOfZigzag(1<<30) + long, 3},
			{rowOfTime(5) + rowOfZigzag(1<<30) + long + "0", 4},
			{rowOfTime(5) + rowOfZigzag(1<<30) + "0" + long + rowOfZigzag(4), 5},
		} {
			refused(t, "a longer form", bytesOf(c.row), c.n, api.ErrTimesForm)
		}
	}
	for _, u := range []uint64{1052802, 1 << 22, 1 << 40, 1<<63 - 2} {
		if l, e := times.Unpack(bytesOf(rowOfTime(5)+"1111"+rowOfNumber(u, 64)), 2); e != api.OK || !slices.Equal(l, []int64{5, 5 + int64(u/2)}) {
			t.Errorf("%d in 64 bits: %d, %d", u, l, e)
		}
	}
}

// P6.2: differences from 1 to as far as the greatest time is; behind a difference, too.
func TestUnpackWantsRisingTimes(t *testing.T) {
	for _, c := range []struct {
		name string
		at   int64
		us   []uint64
		ok   bool
	}{
		{"0 at once", 5, []uint64{0}, false},
		{"0 in the end", 5, []uint64{2, 1}, false},
		{"0 between", 5, []uint64{20, 19, 20}, false},
		{"0 of the greatest", greatest, []uint64{0}, false},
		{"1 of the greatest", greatest, []uint64{2}, false},
		{"1 of the one below it", greatest - 1, []uint64{2}, true},
		{"1 and 1 of that", greatest - 1, []uint64{2, 0}, false},
		{"2 of that", greatest - 1, []uint64{4}, false},
		{"-1 of 5, as 2^64 - 1", 5, []uint64{1}, false},
		{"-1 of the least, as 2^64 - 1", least, []uint64{1}, true},
		{"-1 of the one above it", least + 1, []uint64{1}, false},
		{"-2 of that, as 2^64 - 2", least + 1, []uint64{3}, true},
		{"-2 behind 1", 5, []uint64{2, 3}, false},
		{"2^63 of 0", 0, []uint64{math.MaxUint64}, false},
		{"2^63 of -1", -1, []uint64{math.MaxUint64}, true},
		{"2^63 of the least", least, []uint64{math.MaxUint64}, true},
		{"2^63 twice", least, []uint64{math.MaxUint64, 0}, false},
		{"2^63, 2^63 - 1", least, []uint64{math.MaxUint64, 1}, true},
		{"2^63 and 2^63 more", least, []uint64{math.MaxUint64, math.MaxUint64}, false},
		{"2^63 - 1 of 0", 0, []uint64{math.MaxUint64 - 1}, true},
		{"2^63 - 1 of 1", 1, []uint64{math.MaxUint64 - 1}, false},
	} {
		row := rowOfTime(c.at)
		for _, u := range c.us {
			row += rowOfZigzag(u)
		}
		want := api.OK
		if !c.ok {
			want = api.ErrTimesForm
		}
		b := bytesOf(row)
		l, e := times.Unpack(b, len(c.us)+1)
		if e != want {
			t.Errorf("%s: %d, %d; want %d", c.name, l, e, want)
		} else if c.ok {
			packs(t, l)
		}
	}
}

// P6.2: times that would rise again behind one that doesn't are none.
func TestUnpackLooksAtEachTime(t *testing.T) {
	for at := 1; at < 60; at++ {
		row := rowOfTime(1000)
		for i := 1; i < 60; i++ {
			switch i {
			case 1:
				row += rowOfZigzag(2 * 10)
			case at:
				row += rowOfZigzag(2*10 - 1)
			case at + 1:
				row += rowOfZigzag(2 * 10)
			default:
				row += "0"
			}
		}
		want := api.ErrTimesForm
		if at == 1 {
			want = api.OK
		}
		if _, e := times.Unpack(bytesOf(row), 60); e != want {
			t.Errorf("a difference of 0 at %d: %d", at, e)
		}
	}
}

// P6.2: too few bytes, and too many.
func TestUnpackWantsAllBytes(t *testing.T) {
	for _, l := range samples()[:400] {
		b := bytesOf(rowOfTimes(l))
		for size := range b {
			refused(t, "a beginning", b[:size], len(l), api.ErrTimesForm)
		}
		for _, more := range [][]byte{{0}, {1}, {0x80}, {0xff}, {0, 0, 0, 0, 0, 0, 0, 0}} {
			refused(t, "more behind", append(slices.Clone(b), more...), len(l), api.ErrTimesForm)
		}
	}
}

// P6.2: each spare bit is 0.
func TestUnpackWantsSpareNoughts(t *testing.T) {
	for _, l := range samples()[:400] {
		row := rowOfTimes(l)
		for spare := len(row); spare%8 != 0; spare++ {
			b := bytesOf(row)
			b[spare/8] |= 128 >> (spare % 8)
			refused(t, "a spare bit of 1", b, len(l), api.ErrTimesForm)
		}
	}
}

// P6.2: a number that is cut off within a row of the table, behind whole bytes.
func TestUnpackWantsWholeNumbers(t *testing.T) {
	for _, cut := range []string{"", "1", "10", "100000", "11", "110", "11000000", "111", "1110", "11100000", "1111", "11110000", "111100000000000000000001", "1111" + strings.Repeat("1", 60)} {
		for noughts := range 8 {
			row := rowOfTime(-3) + rowOfZigzag(20) + strings.Repeat("0", noughts) + cut
			if len(row)%8 == 0 {
				refused(t, "cut off", bytesOf(row), noughts+3, api.ErrTimesForm)
			}
		}
	}
}

// P6.3: what Unpack takes is what Pack tells of it, whichever bits are changed.
func TestOneForm(t *testing.T) {
	taken := 0
	for _, l := range samples()[:300] {
		b := bytesOf(rowOfTimes(l))
		for at := range 8 * len(b) {
			c := slices.Clone(b)
			c[at/8] ^= 128 >> (at % 8)
			m, e := times.Unpack(c, len(l))
			if e != api.OK {
				refused(t, "changed", c, len(l), api.ErrTimesForm)
				continue
			}
			taken++
			if slices.Equal(l, m) {
				t.Fatalf("%d has two forms: %x, %x", l, b, c)
			}
			if again, f := times.Pack(m); f != api.OK || !bytes.Equal(again, c) {
				t.Fatalf("of %x: %d, of these %x", c, m, again)
			}
		}
	}
	if taken < 1000 {
		t.Errorf("only %d were taken", taken)
	}
}

// P6.2, P6.3: whatever the bytes are, Unpack ends, and takes only what Pack tells.
func TestAnyBytes(t *testing.T) {
	rnd := rand.New(rand.NewSource(61))
	taken := 0
	for range 200000 {
		b := make([]byte, 7+rnd.Intn(14))
		for i := range b {
			b[i] = []byte{0, 1, 0x7f, 0x80, 0x81, 0xff, byte(rnd.Intn(256))}[rnd.Intn(7)]
		}
		n := rnd.Intn(20)
		l, e := times.Unpack(b, n)
		if e != api.OK && (e != api.ErrTimesForm || len(l) != 0) {
			t.Fatalf("Unpack(%x, %d): %d, %d", b, n, l, e)
		}
		if e != api.OK {
			continue
		}
		taken++
		if again, f := times.Pack(l); len(l) != n || f != api.OK || !bytes.Equal(again, b) {
			t.Fatalf("Unpack(%x, %d): %d, of these %x, %d", b, n, l, again, f)
		}
	}
	if taken < 1000 {
		t.Errorf("only %d were taken", taken)
	}
}

// P6.3: of two rows of as many times no bytes are the same, though of fewer times they may be.
func TestNoTwoHaveTheSameBytes(t *testing.T) {
	seen := map[string][]int64{}
	for a := int64(0); a < 6; a++ {
		for b := a + 1; b < 140; b++ {
			for c := b + 1; c < 140; c++ {
				p, _ := times.Pack([]int64{a, b, c})
				if other := seen[string(p)]; other != nil {
					t.Fatalf("%d, and %d, %d, %d: %x", other, a, b, c, p)
				}
				seen[string(p)] = []int64{a, b, c}
			}
		}
	}
	same, _ := times.Pack([]int64{10, 20})
	for n := 2; n <= 9; n++ {
		if l, e := times.Unpack(same, n); e != api.OK || len(l) != n || l[n-1] != int64(10*n) {
			t.Errorf("%d times: %d, %d", n, l, e)
		}
	}
	refused(t, "a tenth", same, 10, api.ErrTimesForm)
}
