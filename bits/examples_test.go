package bits_test

import (
	"bytes"
	"math"
	"testing"

	"fathom/api"
	"fathom/bits"
)

// The chapter's examples 1 and 2.
func TestExampleThereAndBack(t *testing.T) {
	w := &bits.Writer{}
	w.Bits(5, 3)
	w.Bit(true)
	w.Unary(2)
	w.Var(300)
	w.Zig(-1)
	holds(t, "example 1", w, "1011110"+"101011000000001000000001")
	b, _ := w.Done()
	if !bytes.Equal(b, []byte{0xbd, 0x58, 0x04, 0x02}) {
		t.Errorf("Done: %x", b)
	}
	r := bits.From(b)
	if x := r.Bits(3); x != 5 {
		t.Errorf("Bits(3): %d", x)
	}
	if !r.Bit() {
		t.Error("Bit: false")
	}
	if n := r.Unary(); n != 2 {
		t.Errorf("Unary: %d", n)
	}
	if x := r.Var(); x != 300 {
		t.Errorf("Var: %d", x)
	}
	if x := r.Zig(); x != -1 {
		t.Errorf("Zig: %d", x)
	}
	stands(t, "example 2", r, 1, api.OK)
}

// The chapter's example 3.
func TestExampleRefusedNumbers(t *testing.T) {
	for _, c := range []struct {
		lay func(w *bits.Writer)
		e   api.Errno
	}{
		{func(w *bits.Writer) { w.Bits(8, 3) }, api.ErrBitsWidth},
		{func(w *bits.Writer) { w.Bits(0, 0) }, api.OK},
		{func(w *bits.Writer) { w.Unary(65) }, api.ErrBitsLong},
		{func(w *bits.Writer) { w.Bits(1, 65) }, api.ErrBitsWidth},
	} {
		w := &bits.Writer{}
		c.lay(w)
		refusedWith(t, "example 3", w, c.e, 0)
	}
}

// The chapter's examples 4 and 5.
func TestExampleBytes(t *testing.T) {
	ones := bytes.Repeat([]byte{0xff}, 9)
	for i, c := range []struct {
		b    []byte
		take func(r *bits.Reader) uint64
		x    uint64
		e    api.Errno
	}{
		{[]byte{0x80, 0x00}, takeVar, 0, api.ErrBitsForm},
		{[]byte{0x80}, takeVar, 0, api.ErrBitsShort},
		{append(ones[:9:9], 1), takeVar, math.MaxUint64, api.OK},
		{append(ones[:9:9], 2), takeVar, 0, api.ErrBitsForm},
		{ones, takeUnary, 0, api.ErrBitsLong},
		{ones[:8], takeUnary, 0, api.ErrBitsShort},
		{[]byte{0x40}, takeBit, 0, api.ErrBitsForm},
		{[]byte{0, 0}, takeBits(0), 0, api.ErrBitsLeft},
		{nil, takeBits(0), 0, api.OK},
	} {
		r := bits.From(c.b)
		if x, e := c.take(r), r.End(); x != c.x || e != c.e {
			t.Errorf("%d: %d, End %d; want %d, %d", i, x, e, c.x, c.e)
		}
	}
}
