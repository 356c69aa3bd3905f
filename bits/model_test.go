package bits_test

import (
	"math/big"
	"math/rand"
	"strings"
	"testing"

	"fathom/api"
	"fathom/bits"
)

// The model: a stream is a text of '0' and '1', written by the chapter's table alone.

func rowOfBits(x uint64, n int) string {
	row := new(big.Int).SetUint64(x).Text(2)
	if x == 0 {
		row = ""
	}
	return strings.Repeat("0", n-len(row)) + row
}

func rowOfUnary(n int) string { return strings.Repeat("1", n) + "0" }

func rowOfVar(x uint64) string {
	row := ""
	for x >= 128 {
		row += "1" + rowOfBits(x%128, 7)
		x /= 128
	}
	return row + "0" + rowOfBits(x, 7)
}

func rowOfZig(x int64) string {
	twice := new(big.Int).Lsh(big.NewInt(x), 1)
	if x < 0 {
		twice.Neg(twice).Sub(twice, big.NewInt(1))
	}
	return rowOfVar(twice.Uint64())
}

// pack tells a row's bytes: the first bit as the highest, noughts in the end.
func pack(row string) []byte {
	b := make([]byte, (len(row)+7)/8)
	for i, c := range row {
		if c == '1' {
			b[i/8] |= 128 >> (i % 8)
		}
	}
	return b
}

// step is one call: how a writer lays it, how a reader takes it (and tells whether it is the same), and its row in the model.
type step struct {
	name string
	row  string
	lay  func(w *bits.Writer)
	take func(r *bits.Reader) bool
}

func stepBit(b bool) step {
	row := "0"
	if b {
		row = "1"
	}
	return step{"Bit", row, func(w *bits.Writer) { w.Bit(b) }, func(r *bits.Reader) bool { return r.Bit() == b }}
}

func stepBits(x uint64, n int) step {
	return step{"Bits", rowOfBits(x, n), func(w *bits.Writer) { w.Bits(x, n) }, func(r *bits.Reader) bool { return r.Bits(n) == x }}
}

func stepUnary(n int) step {
	return step{"Unary", rowOfUnary(n), func(w *bits.Writer) { w.Unary(n) }, func(r *bits.Reader) bool { return r.Unary() == n }}
}

func stepVar(x uint64) step {
	return step{"Var", rowOfVar(x), func(w *bits.Writer) { w.Var(x) }, func(r *bits.Reader) bool { return r.Var() == x }}
}

func stepZig(x int64) step {
	return step{"Zig", rowOfZig(x), func(w *bits.Writer) { w.Zig(x) }, func(r *bits.Reader) bool { return r.Zig() == x }}
}

// anyNumber tells numbers of all lengths alike.
func anyNumber(rnd *rand.Rand) uint64 { return rnd.Uint64() >> rnd.Intn(64) }

func anyStep(rnd *rand.Rand) step {
	switch rnd.Intn(5) {
	case 0:
		return stepBit(rnd.Intn(2) == 1)
	case 1:
		n := rnd.Intn(65)
		return stepBits(rnd.Uint64()>>(64-n), n)
	case 2:
		return stepUnary(rnd.Intn(api.MaxUnary + 1))
	case 3:
		return stepVar(anyNumber(rnd))
	}
	return stepZig(int64(anyNumber(rnd)) * int64(1-2*rnd.Intn(2)))
}

// edges are numbers at the ends of what they may be, and where a Var grows.
func edges() []uint64 {
	l := []uint64{0, 1, 2}
	for n := 2; n <= 64; n++ {
		top := uint64(1)<<(n-1) - 1 + uint64(1)<<(n-1)
		l = append(l, top-1, top)
		if n < 64 {
			l = append(l, top+1)
		}
	}
	return l
}

// edgeSteps are each call at the edges of what it takes.
func edgeSteps() []step {
	l := []step{stepBit(false), stepBit(true), stepBits(0, 0)}
	for n := 1; n <= 64; n++ {
		top := uint64(1)<<(n-1) - 1 + uint64(1)<<(n-1)
		l = append(l, stepBits(0, n), stepBits(1, n), stepBits(top, n), stepBits(uint64(1)<<(n-1), n))
	}
	for n := 0; n <= api.MaxUnary; n++ {
		l = append(l, stepUnary(n))
	}
	for _, x := range edges() {
		l = append(l, stepVar(x), stepZig(int64(x)), stepZig(-int64(x)))
	}
	return l
}

// lay tells a writer of a row.
func lay(row string) *bits.Writer {
	w := &bits.Writer{}
	for _, c := range row {
		w.Bit(c == '1')
	}
	return w
}

// holds fails unless a writer's Len and Done tell a row.
func holds(t *testing.T, what string, w *bits.Writer, row string) {
	t.Helper()
	b, e := w.Done()
	if want := pack(row); e != api.OK || w.Len() != len(row) || string(b) != string(want) {
		t.Fatalf("%s: %x, error %d, Len %d; want %x, Len %d", what, b, e, w.Len(), want, len(row))
	}
}
