package times_test

import (
	"bytes"
	"math"
	"math/big"
	"math/rand"
	"slices"
	"strings"
	"testing"

	"fathom/api"
	"fathom/times"
)

const (
	least    = math.MinInt64
	greatest = math.MaxInt64
)

// The model: bits are a text of '0' and '1', written by the chapter's words alone, in whole numbers of any size.

func rowOf(x *big.Int, n int) string {
	row := x.Text(2)
	if x.Sign() == 0 {
		row = ""
	}
	return strings.Repeat("0", n-len(row)) + row
}

func rowOfNumber(u uint64, n int) string { return rowOf(new(big.Int).SetUint64(u), n) }

// rowOfTime tells a first time's bits.
func rowOfTime(t int64) string {
	x := big.NewInt(t)
	if t < 0 {
		x.Add(x, new(big.Int).Lsh(big.NewInt(1), 64))
	}
	return rowOf(x, 64)
}

// rowOfZigzag is the chapter's table.
func rowOfZigzag(u uint64) string {
	switch {
	case u == 0:
		return "0"
	case u <= 128:
		return "10" + rowOfNumber(u-1, 7)
	case u <= 4224:
		return "110" + rowOfNumber(u-129, 12)
	case u <= 1052800:
		return "1110" + rowOfNumber(u-4225, 20)
	}
	return "1111" + rowOfNumber(u, 64)
}

// zigzagOf tells u of a difference and the one ahead.
func zigzagOf(d, ahead *big.Int) uint64 {
	round := new(big.Int).Lsh(big.NewInt(1), 64)
	bend := new(big.Int).Sub(d, ahead)
	bend.Mod(bend, round)
	if bend.Bit(63) == 1 {
		bend.Sub(bend, round)
	}
	u := new(big.Int).Lsh(bend, 1)
	if bend.Sign() < 0 {
		u.Neg(u).Sub(u, big.NewInt(1))
	}
	return u.Uint64()
}

// rowOfTimes tells the bits of times that rise.
func rowOfTimes(l []int64) string {
	if len(l) == 0 {
		return ""
	}
	row := &strings.Builder{}
	row.WriteString(rowOfTime(l[0]))
	ahead := new(big.Int)
	for i := 1; i < len(l); i++ {
		d := new(big.Int).Sub(big.NewInt(l[i]), big.NewInt(l[i-1]))
		row.WriteString(rowOfZigzag(zigzagOf(d, ahead)))
		ahead = d
	}
	return row.String()
}

// bytesOf tells a row's bytes: the first bit as the highest, noughts in the end.
func bytesOf(row string) []byte {
	b := make([]byte, (len(row)+7)/8)
	for i, c := range row {
		if c == '1' {
			b[i/8] |= 128 >> (i % 8)
		}
	}
	return b
}

// edgeNumbers are those at the ends of the table's rows, and at the ends of all numbers.
func edgeNumbers() []uint64 {
	l := []uint64{}
	for _, end := range []uint64{0, 1, 2, 64, 127, 128, 129, 256, 4224, 4225, 8192, 1052800, 1052801, 1 << 21, 1 << 32, 1 << 62, 1 << 63, math.MaxUint64 - 1} {
		l = append(l, end, end+1)
		if end > 0 {
			l = append(l, end-1)
		}
	}
	return l
}

// bendOf tells the bend, modulo 2^64, whose zigzag u is.
func bendOf(u uint64) uint64 {
	half := u / 2
	if u%2 == 1 {
		return -half - 1
	}
	return half
}

// anyNumber tells numbers of all lengths alike.
func anyNumber(rnd *rand.Rand) uint64 { return rnd.Uint64() >> rnd.Intn(64) }

// anyTimes tells up to n times: at nearly equal distances, at distances of all lengths, or anywhere.
func anyTimes(rnd *rand.Rand, n int) []int64 {
	l := []int64{}
	kind, step := rnd.Intn(4), anyNumber(rnd)>>rnd.Intn(40)|1
	t := int64(rnd.Uint64()) >> rnd.Intn(64)
	for range n {
		l = append(l, t)
		d := step
		switch kind {
		case 1:
			d += uint64(rnd.Int63n(1 << (1 + rnd.Intn(24))))
		case 2:
			d = anyNumber(rnd)>>rnd.Intn(64) | 1
		case 3:
			d = rnd.Uint64()>>8 | 1
		}
		next := int64(uint64(t) + d)
		if next <= t {
			break
		}
		t = next
	}
	return l
}

// samples are rows of times of all sorts.
func samples() [][]int64 {
	l := [][]int64{
		nil, {}, {0}, {-1}, {1}, {least}, {greatest},
		{10, 20, 30, 40}, {least, greatest}, {least, 0, greatest}, {least, -1, 0, greatest}, {-1, 0}, {0, greatest}, {least, least + 1}, {greatest - 1, greatest},
		{least, least + 1, greatest}, {least, greatest - 1, greatest}, {least, least + 1, greatest - 1, greatest},
		{least, least + 1, 5, 6, 70, 4000, 1 << 40, 1<<40 + 1},
	}
	rnd := rand.New(rand.NewSource(6))
	for range 3000 {
		l = append(l, anyTimes(rnd, 1+rnd.Intn(40)))
	}
	for range 10 {
		l = append(l, anyTimes(rnd, api.MaxColumn))
	}
	return l
}

// packs fails unless Pack tells the model's bytes, and Unpack the times again.
func packs(t *testing.T, l []int64) {
	t.Helper()
	want := bytesOf(rowOfTimes(l))
	if b, e := times.Pack(l); e != api.OK || !bytes.Equal(b, want) {
		t.Fatalf("Pack(%d): %x, %d; want %x", l, b, e, want)
	}
	if m, e := times.Unpack(want, len(l)); e != api.OK || !slices.Equal(l, m) {
		t.Fatalf("Unpack(%x, %d): %d, %d; want %d", want, len(l), m, e, l)
	}
}

// refused fails unless Unpack tells this error and nothing else.
func refused(t *testing.T, what string, b []byte, n int, want api.Errno) {
	t.Helper()
	if l, e := times.Unpack(b, n); e != want || len(l) != 0 {
		t.Fatalf("%s: Unpack(%x, %d): %d, %d; want error %d", what, b, n, l, e, want)
	}
}
