package bits_test

import (
	"math"
	"math/rand"
	"strings"
	"testing"

	"fathom/api"
	"fathom/bits"
)

// P1.1: a writer that nobody has used has laid nothing.
func TestWriterIsEmptyAtFirst(t *testing.T) {
	var w bits.Writer
	holds(t, "a new one", &w, "")
	w.Bits(0, 0)
	holds(t, "behind no bit", &w, "")
}

// P1.1: every call's bits, written out by hand.
func TestWriterLaysTheTable(t *testing.T) {
	for _, c := range []struct {
		name string
		lay  func(w *bits.Writer)
		row  string
	}{
		{"Bit true", func(w *bits.Writer) { w.Bit(true) }, "1"},
		{"Bit false", func(w *bits.Writer) { w.Bit(false) }, "0"},
		{"Bits(5, 3)", func(w *bits.Writer) { w.Bits(5, 3) }, "101"},
		{"Bits(1, 9)", func(w *bits.Writer) { w.Bits(1, 9) }, "000000001"},
		{"Bits(2^64-1, 64)", func(w *bits.Writer) { w.Bits(math.MaxUint64, 64) }, strings.Repeat("1", 64)},
		{"Bits(2^63, 64)", func(w *bits.Writer) { w.Bits(1<<63, 64) }, "1" + strings.Repeat("0", 63)},
		{"Unary(0)", func(w *bits.Writer) { w.Unary(0) }, "0"},
		{"Unary(3)", func(w *bits.Writer) { w.Unary(3) }, "1110"},
		{"Unary(64)", func(w *bits.Writer) { w.Unary(64) }, strings.Repeat("1", 64) + "0"},
		{"Var(0)", func(w *bits.Writer) { w.Var(0) }, "00000000"},
		{"Var(127)", func(w *bits.Writer) { w.Var(127) }, "01111111"},
		{"Var(128)", func(w *bits.Writer) { w.Var(128) }, "1000000000000001"},
		{"Var(300)", func(w *bits.Writer) { w.Var(300) }, "1010110000000010"},
		{"Var(2^63)", func(w *bits.Writer) { w.Var(1 << 63) }, strings.Repeat("10000000", 9) + "00000001"},
		{"Var(2^64-1)", func(w *bits.Writer) { w.Var(math.MaxUint64) }, strings.Repeat("11111111", 9) + "00000001"},
		{"Zig(0)", func(w *bits.Writer) { w.Zig(0) }, "00000000"},
		{"Zig(-1)", func(w *bits.Writer) { w.Zig(-1) }, "00000001"},
		{"Zig(1)", func(w *bits.Writer) { w.Zig(1) }, "00000010"},
		{"Zig(-64)", func(w *bits.Writer) { w.Zig(-64) }, "01111111"},
		{"Zig(64)", func(w *bits.Writer) { w.Zig(64) }, "1000000000000001"},
		{"Zig(the greatest)", func(w *bits.Writer) { w.Zig(math.MaxInt64) }, "11111110" + strings.Repeat("11111111", 8) + "00000001"},
		{"Zig(the least)", func(w *bits.Writer) { w.Zig(math.MinInt64) }, strings.Repeat("11111111", 9) + "00000001"},
	} {
		for ahead := range 9 {
			w := lay("011010010"[:ahead])
			c.lay(w)
			holds(t, c.name, w, "011010010"[:ahead]+c.row)
		}
	}
}

// P1.1: each call lays behind what has been laid, at the edges of its numbers.
func TestWriterLaysTheEdges(t *testing.T) {
	for _, s := range edgeSteps() {
		for _, ahead := range []string{"", "1", "0110100", "01101001"} {
			w := lay(ahead)
			s.lay(w)
			w.Bit(true)
			holds(t, s.name+" "+s.row, w, ahead+s.row+"1")
		}
	}
}

type refusal struct {
	name string
	lay  func(w *bits.Writer)
	e    api.Errno
}

func refusals() []refusal {
	l := []refusal{
		{"Bits(0, -1)", func(w *bits.Writer) { w.Bits(0, -1) }, api.ErrBitsWidth},
		{"Bits(0, 65)", func(w *bits.Writer) { w.Bits(0, 65) }, api.ErrBitsWidth},
		{"Bits(1, 65)", func(w *bits.Writer) { w.Bits(1, 65) }, api.ErrBitsWidth},
		{"Bits(0, the least)", func(w *bits.Writer) { w.Bits(0, math.MinInt) }, api.ErrBitsWidth},
		{"Bits(0, the greatest)", func(w *bits.Writer) { w.Bits(0, math.MaxInt) }, api.ErrBitsWidth},
		{"Unary(-1)", func(w *bits.Writer) { w.Unary(-1) }, api.ErrBitsLong},
		{"Unary(65)", func(w *bits.Writer) { w.Unary(65) }, api.ErrBitsLong},
		{"Unary(the least)", func(w *bits.Writer) { w.Unary(math.MinInt) }, api.ErrBitsLong},
		{"Unary(the greatest)", func(w *bits.Writer) { w.Unary(math.MaxInt) }, api.ErrBitsLong},
	}
	for n := range 64 {
		l = append(l,
			refusal{"Bits(2^n, n)", func(w *bits.Writer) { w.Bits(1<<n, n) }, api.ErrBitsWidth},
			refusal{"Bits(2^64-1, n)", func(w *bits.Writer) { w.Bits(math.MaxUint64, n) }, api.ErrBitsWidth})
	}
	return l
}

// P1.1, P1.2: a refused call lays nothing, and neither does any call behind it; the first error stays.
func TestWriterRefuses(t *testing.T) {
	for _, first := range refusals() {
		for _, ahead := range []string{"", "101"} {
			w := lay(ahead)
			first.lay(w)
			refusedWith(t, first.name, w, first.e, len(ahead))
			for _, s := range []step{stepBit(true), stepBits(5, 3), stepBits(0, 0), stepUnary(2), stepVar(300), stepZig(-1)} {
				s.lay(w)
				refusedWith(t, first.name+", then "+s.name, w, first.e, len(ahead))
			}
			for _, second := range refusals() {
				second.lay(w)
				refusedWith(t, first.name+", then "+second.name, w, first.e, len(ahead))
			}
		}
	}
}

func refusedWith(t *testing.T, what string, w *bits.Writer, want api.Errno, n int) {
	t.Helper()
	if b, e := w.Done(); len(b) != 0 || e != want || w.Len() != n {
		t.Fatalf("%s: %x, error %d, Len %d; want error %d, Len %d", what, b, e, w.Len(), want, n)
	}
}

// P1.2: Len and Done may be asked between calls; what is laid behind takes the place of the spare bits.
func TestLenAndDoneBetweenCalls(t *testing.T) {
	rnd := rand.New(rand.NewSource(1))
	for range 20 {
		w, row := &bits.Writer{}, ""
		for range 300 {
			s := anyStep(rnd)
			s.lay(w)
			row += s.row
			holds(t, "behind "+s.name, w, row)
			holds(t, "asked again", w, row)
		}
	}
}

// P1.2: a writer that was asked all the time has laid what one has that was never asked.
func TestAskingChangesNothing(t *testing.T) {
	asked, still := &bits.Writer{}, &bits.Writer{}
	for i := range 5000 {
		s := stepVar(uint64(i) * uint64(i))
		s.lay(asked)
		s.lay(still)
		asked.Len()
		asked.Done()
	}
	a, _ := asked.Done()
	b, _ := still.Done()
	if asked.Len() != still.Len() || string(a) != string(b) {
		t.Error("they differ")
	}
}

// P1.2, P1.5: Done has Len / 8 bytes, rounded up, at every length.
func TestDoneHasAsManyBytesAsNeeded(t *testing.T) {
	w := &bits.Writer{}
	for n := range 3000 {
		if b, e := w.Done(); w.Len() != n || len(b) != (n+7)/8 || e != api.OK {
			t.Fatalf("of %d bits: Len %d, %d bytes, error %d", n, w.Len(), len(b), e)
		}
		w.Bit(true)
	}
}

// P1.5: of two numbers the lesser one has no longer a Var.
func TestLesserVarIsNoLonger(t *testing.T) {
	size := func(x uint64) int {
		w := &bits.Writer{}
		w.Var(x)
		return w.Len()
	}
	last := 0
	for _, x := range edges() {
		if n := size(x); n < last || n%8 != 0 {
			t.Fatalf("Var(%d) has %d bits, one of a lesser number %d", x, n, last)
		} else {
			last = n
		}
	}
	if size(0) != 8 || size(math.MaxUint64) != 80 {
		t.Error("the shortest or the longest is wrong")
	}
}

// P1.5: a number in two parts, its higher bits ahead, is laid as in one.
func TestTwoPartsAreOne(t *testing.T) {
	rnd := rand.New(rand.NewSource(2))
	for n := range 65 {
		for low := range n + 1 {
			x := rnd.Uint64() >> (64 - n)
			one, two := lay("10110"), lay("10110")
			one.Bits(x, n)
			two.Bits(x>>low, n-low)
			two.Bits(x&(uint64(1)<<low-1), low)
			row := "10110" + rowOfBits(x, n)
			holds(t, "in one", one, row)
			holds(t, "in two", two, row)
		}
	}
}

// P1.6: what Done tells is the caller's own, spare room too, and new each time.
func TestDoneTellsNewMemory(t *testing.T) {
	row := strings.Repeat("1101", 700)
	w := lay(row)
	first, _ := w.Done()
	second, _ := w.Done()
	for i := range first[:cap(first)] {
		first[:cap(first)][i] = 0x55
	}
	if string(second) != string(pack(row)) {
		t.Error("two answers share memory")
	}
	_ = append(second, 1, 2, 3)
	holds(t, "written over", w, row)
	w.Var(300)
	holds(t, "and laid behind", w, row+rowOfVar(300))
	if first[0] != 0x55 || first[len(first)-1] != 0x55 {
		t.Error("the writer has written into what it told")
	}
}

// P1.6: writers have nothing in common, nor has a copy with what it is a copy of.
func TestWritersKeepToThemselves(t *testing.T) {
	for _, size := range []int{0, 5, 8, 100, 959, 960, 961, 2000} {
		row := strings.Repeat("1", size)
		w := lay(row)
		other := lay("0")
		twin := *w
		w.Bits(0, 3)
		twin.Bits(5, 3)
		twin.Unary(65)
		other.Bits(2, 2)
		w.Var(1 << 63)
		holds(t, "the first", w, row+"000"+rowOfVar(1<<63))
		holds(t, "the other", other, "010")
		refusedWith(t, "the copy", &twin, api.ErrBitsLong, size+3)
	}
}
