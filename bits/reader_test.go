package bits_test

import (
	"bytes"
	"math"
	"math/rand"
	"strings"
	"testing"

	"fathom/api"
	"fathom/bits"
)

// stands fails unless a reader's Left and End are these.
func stands(t *testing.T, what string, r *bits.Reader, left int, end api.Errno) {
	t.Helper()
	if r.Left() != left || r.End() != end {
		t.Fatalf("%s: %d left, End %d; want %d, %d", what, r.Left(), r.End(), left, end)
	}
}

// The kinds of calls, with what they tell as a number.
func takeBit(r *bits.Reader) uint64 {
	if r.Bit() {
		return 1
	}
	return 0
}
func takeUnary(r *bits.Reader) uint64 { return uint64(r.Unary()) }
func takeVar(r *bits.Reader) uint64   { return r.Var() }
func takeZig(r *bits.Reader) uint64   { return uint64(r.Zig()) }
func takeBits(n int) func(r *bits.Reader) uint64 {
	return func(r *bits.Reader) uint64 { return r.Bits(n) }
}

func allKinds() []func(r *bits.Reader) uint64 {
	return []func(r *bits.Reader) uint64{takeBit, takeBits(0), takeBits(1), takeBits(64), takeBits(65), takeBits(-1), takeUnary, takeVar, takeZig}
}

// P1.3, P1.4: each call takes its number from the front, at the edges of its numbers.
func TestReaderTakesTheEdges(t *testing.T) {
	for _, s := range edgeSteps() {
		for _, ahead := range []string{"", "1", "0110100", "01101001"} {
			row := ahead + s.row + "1"
			b := pack(row)
			r := bits.From(b)
			if r.Left() != 8*len(b) {
				t.Fatalf("of %d bytes %d bits are left", len(b), r.Left())
			}
			for i := range len(ahead) {
				if r.Bit() != (ahead[i] == '1') {
					t.Fatalf("bit %d of %s is another one", i, ahead)
				}
			}
			if !s.take(r) || r.Left() != 8*len(b)-len(row)+1 || !r.Bit() {
				t.Fatalf("%s %s behind %q is another one", s.name, s.row, ahead)
			}
			stands(t, s.name, r, 8*len(b)-len(row), api.OK)
		}
	}
}

// P1.3: of the last byte all eight bits are there.
func TestReaderTakesTheLastByteWhole(t *testing.T) {
	r := bits.From([]byte{0x00, 0x01})
	if x := r.Bits(16); x != 1 {
		t.Errorf("Bits(16): %d", x)
	}
	stands(t, "in the end", r, 0, api.OK)
}

// P1.3: what is refused, with which error, takes nothing and tells 0.
func TestReaderRefuses(t *testing.T) {
	many := func(n int, more ...byte) []byte { return append(bytes.Repeat([]byte{0xff}, n), more...) }
	noughts := func(n int, more ...byte) []byte { return append(bytes.Repeat([]byte{0x80}, n), more...) }
	for _, c := range []struct {
		name string
		b    []byte
		take func(r *bits.Reader) uint64
		e    api.Errno
	}{
		{"Bit of none", nil, takeBit, api.ErrBitsShort},
		{"Bits(1) of none", nil, takeBits(1), api.ErrBitsShort},
		{"Bits(9) of 8", many(1), takeBits(9), api.ErrBitsShort},
		{"Bits(64) of 56", many(7), takeBits(64), api.ErrBitsShort},
		{"Bits(65)", many(20), takeBits(65), api.ErrBitsWidth},
		{"Bits(65) of none", nil, takeBits(65), api.ErrBitsWidth},
		{"Bits(-1)", many(20), takeBits(-1), api.ErrBitsWidth},
		{"Bits(-1) of none", nil, takeBits(-1), api.ErrBitsWidth},
		{"Bits(the least)", many(2), takeBits(math.MinInt), api.ErrBitsWidth},
		{"Bits(the greatest)", many(2), takeBits(math.MaxInt), api.ErrBitsWidth},
		{"Bits(65) ahead of what all other calls would take", []byte{0x85, 3, 5, 5, 5, 5, 5, 5}, takeBits(65), api.ErrBitsWidth},
		{"Unary of none", nil, takeUnary, api.ErrBitsShort},
		{"Unary of 8 ones", many(1), takeUnary, api.ErrBitsShort},
		{"Unary of 64 ones", many(8), takeUnary, api.ErrBitsShort},
		{"Unary of 65 ones, noughts behind", many(8, 0x80), takeUnary, api.ErrBitsLong},
		{"Unary of 72 ones", many(9), takeUnary, api.ErrBitsLong},
		{"Unary of many ones", many(50), takeUnary, api.ErrBitsLong},
		{"Var of none", nil, takeVar, api.ErrBitsShort},
		{"Var without its second group", []byte{0x80}, takeVar, api.ErrBitsShort},
		{"Var without its third group", []byte{0xff, 0x80}, takeVar, api.ErrBitsShort},
		{"Var without its tenth group", many(9), takeVar, api.ErrBitsShort},
		{"Var with a second group of 0", []byte{0x80, 0}, takeVar, api.ErrBitsForm},
		{"Var with a second group of 0 behind a number", []byte{0xff, 0, 1}, takeVar, api.ErrBitsForm},
		{"Var with a third group of 0", []byte{0xff, 0x81, 0}, takeVar, api.ErrBitsForm},
		{"Var with a tenth group of 0", many(9, 0), takeVar, api.ErrBitsForm},
		{"Var with a tenth group of 2", many(9, 2), takeVar, api.ErrBitsForm},
		{"Var with a tenth group of 127", noughts(9, 0x7f), takeVar, api.ErrBitsForm},
		{"Var with an eleventh group", many(9, 0x81, 1), takeVar, api.ErrBitsForm},
		{"Var that says an eleventh group, which is not there", many(9, 0x81), takeVar, api.ErrBitsForm},
		{"Var that says one behind a tenth group of noughts", noughts(10), takeVar, api.ErrBitsForm},
		{"Var of many groups", many(30, 1), takeVar, api.ErrBitsForm},
		{"Zig of none", nil, takeZig, api.ErrBitsShort},
		{"Zig without its second group", []byte{0x81}, takeZig, api.ErrBitsShort},
		{"Zig with a second group of 0", []byte{0x81, 0}, takeZig, api.ErrBitsForm},
		{"Zig with a tenth group of 2", many(9, 2), takeZig, api.ErrBitsForm},
		{"Zig with an eleventh group", many(9, 0x80, 1), takeZig, api.ErrBitsForm},
	} {
		r := bits.From(c.b)
		if x := c.take(r); x != 0 {
			t.Errorf("%s: refused, and tells %d", c.name, x)
		}
		stands(t, c.name, r, 8*len(c.b), c.e)
		for i, take := range allKinds() {
			if x := take(r); x != 0 {
				t.Errorf("%s: call %d behind tells %d", c.name, i, x)
			}
			stands(t, c.name+", and a call behind", r, 8*len(c.b), c.e)
		}
	}
}

// P1.3: likewise where the number doesn't begin with a byte, and ends with the last bit.
func TestReaderRefusesWithinBytes(t *testing.T) {
	for _, c := range []struct {
		name  string
		ahead int
		row   string
		take  func(r *bits.Reader) uint64
		e     api.Errno
	}{
		{"65 ones in the end", 7, strings.Repeat("1", 65), takeUnary, api.ErrBitsLong},
		{"64 ones in the end", 8, strings.Repeat("1", 64), takeUnary, api.ErrBitsShort},
		{"63 ones in the end", 1, strings.Repeat("1", 63), takeUnary, api.ErrBitsShort},
		{"a group of seven bits", 1, "0000000", takeVar, api.ErrBitsShort},
		{"a second group of seven bits, all 0", 1, "100000000000000", takeVar, api.ErrBitsShort},
		{"a tenth group of seven bits", 1, strings.Repeat("11111111", 9) + "1111111", takeVar, api.ErrBitsShort},
		{"a tenth group of 2", 3, strings.Repeat("11111111", 9) + "0000001000000", takeVar, api.ErrBitsForm},
		{"a second group of 0", 4, "111111110000000000000000", takeZig, api.ErrBitsForm},
		{"ten bits for eleven", 6, "1111111111", takeBits(11), api.ErrBitsShort},
	} {
		r := bits.From(pack(strings.Repeat("0", c.ahead) + c.row))
		r.Bits(c.ahead)
		left := r.Left()
		if x := c.take(r); x != 0 {
			t.Errorf("%s: refused, and tells %d", c.name, x)
		}
		stands(t, c.name, r, left, c.e)
	}
}

// P1.3: the longest numbers that are taken, hard beside those that are not.
func TestReaderTakesTheLongest(t *testing.T) {
	nine := bytes.Repeat([]byte{0xff}, 9)
	if r := bits.From(append(nine[:9:9], 1)); r.Var() != math.MaxUint64 || r.End() != api.OK {
		t.Error("Var: 2^64 - 1")
	}
	if r := bits.From(append(nine[:9:9], 1)); r.Zig() != math.MinInt64 || r.End() != api.OK {
		t.Error("Zig: the least")
	}
	if r := bits.From(append(nine[:8:8], 0)); r.Unary() != 64 || r.Left() != 7 || r.End() != api.OK {
		t.Error("Unary: 64")
	}
	if r := bits.From(nine); r.Bits(64) != math.MaxUint64 || r.Left() != 8 {
		t.Error("Bits: 2^64 - 1")
	}
	if r := bits.From([]byte{0}); r.Var() != 0 || r.End() != api.OK {
		t.Error("Var: one group of 0")
	}
	if r := bits.From([]byte{0x80, 0x80, 1}); r.Var() != 1<<14 || r.End() != api.OK {
		t.Error("Var: groups of 0 that are not the last")
	}
}

// P1.3: no bit is taken where nothing is left, without refusal.
func TestReaderTakesNoBit(t *testing.T) {
	r := bits.From(nil)
	if r.Bits(0) != 0 {
		t.Error("Bits(0)")
	}
	stands(t, "of none", r, 0, api.OK)
}

// P1.4: End may be asked at any time, and reading goes on.
func TestLeftAndEndBetweenCalls(t *testing.T) {
	r := bits.From([]byte{0x00, 0x40, 0x20})
	stands(t, "at first", r, 24, api.ErrBitsLeft)
	r.Bits(8)
	stands(t, "behind 8", r, 16, api.ErrBitsLeft)
	r.Bits(8)
	stands(t, "behind 16", r, 8, api.ErrBitsLeft)
	r.Bit()
	stands(t, "behind 17", r, 7, api.ErrBitsForm)
	if r.Bits(2) != 1 {
		t.Error("the two bits behind are another number")
	}
	stands(t, "behind 19", r, 5, api.OK)
	r.Bits(5)
	stands(t, "behind all", r, 0, api.OK)
	r.Bit()
	stands(t, "beyond all", r, 0, api.ErrBitsShort)
}

// P1.4: each of the bits that are left must be 0.
func TestEndLooksAtEachBit(t *testing.T) {
	for taken := range 8 {
		for one := range 8 {
			want := api.OK
			if one >= taken {
				want = api.ErrBitsForm
			}
			if taken == 0 {
				want = api.ErrBitsLeft
			}
			r := bits.From([]byte{0xff, 128 >> one})
			r.Bits(8 + taken)
			stands(t, "one bit", r, 8-taken, want)
		}
	}
	stands(t, "none", bits.From(nil), 0, api.OK)
	stands(t, "none", bits.From([]byte{}), 0, api.OK)
	stands(t, "a byte of 0", bits.From([]byte{0}), 8, api.ErrBitsLeft)
	stands(t, "two bytes of 0", bits.From([]byte{0, 0}), 16, api.ErrBitsLeft)
}

// P1.4: a refusal goes ahead of what is left.
func TestEndTellsTheRefusalFirst(t *testing.T) {
	r := bits.From([]byte{0xff, 0xff, 0xff})
	r.Bits(-1)
	stands(t, "with much left", r, 24, api.ErrBitsWidth)
	r = bits.From([]byte{0x0f})
	r.Bits(4)
	r.Unary()
	stands(t, "with ones left", r, 4, api.ErrBitsShort)
}

// P1.5: what was laid is taken again, by the same calls; then End is OK.
func TestThereAndBack(t *testing.T) {
	rnd := rand.New(rand.NewSource(3))
	for range 500 {
		w, steps := &bits.Writer{}, []step{}
		for range rnd.Intn(60) {
			s := anyStep(rnd)
			s.lay(w)
			steps = append(steps, s)
		}
		b, e := w.Done()
		if e != api.OK {
			t.Fatalf("Done: %d", e)
		}
		r := bits.From(b)
		left := r.Left()
		for i, s := range steps {
			left -= len(s.row)
			if !s.take(r) || r.Left() != left {
				t.Fatalf("call %d, %s %s, is another one, or %d left", i, s.name, s.row, r.Left())
			}
		}
		stands(t, "in the end", r, 8*len(b)-w.Len(), api.OK)
	}
}

// again takes one number by a call of some kind, and lays it.
func again(kind, n int, r *bits.Reader, w *bits.Writer) {
	switch kind {
	case 0:
		w.Bit(r.Bit())
	case 1:
		w.Bits(r.Bits(n), n)
	case 2:
		w.Unary(r.Unary())
	case 3:
		w.Var(r.Var())
	case 4:
		w.Zig(r.Zig())
	}
}

// P1.5: where a reader ends with OK, a writer makes the same bytes of what it told.
func TestEachNumberHasOneForm(t *testing.T) {
	rnd := rand.New(rand.NewSource(4))
	good := 0
	for range 200000 {
		b := make([]byte, rnd.Intn(13))
		for i := range b {
			b[i] = []byte{0, 1, 0x7f, 0x80, 0x81, 0xff, byte(rnd.Intn(256))}[rnd.Intn(7)]
		}
		r, w := bits.From(b), &bits.Writer{}
		for r.Left() >= 8 && r.End() == api.ErrBitsLeft {
			again(rnd.Intn(5), rnd.Intn(65), r, w)
		}
		if r.End() != api.OK {
			continue
		}
		good++
		if made, e := w.Done(); e != api.OK || !bytes.Equal(made, b) || w.Len() != 8*len(b)-r.Left() {
			t.Fatalf("of %x: %x, error %d", b, made, e)
		}
	}
	if good < 1000 {
		t.Errorf("only %d ended with OK", good)
	}
}

// P1.5: each two bytes are at most one Var and one Zig, and these are laid as they were.
func TestEachVarHasOneForm(t *testing.T) {
	for i := range 1 << 16 {
		b := []byte{byte(i >> 8), byte(i)}
		for kind := 3; kind <= 4; kind++ {
			r, w := bits.From(b), &bits.Writer{}
			again(kind, 0, r, w)
			if r.End() != api.OK {
				continue
			}
			if made, _ := w.Done(); !bytes.Equal(made, b) {
				t.Fatalf("of %x: %x", b, made)
			}
		}
	}
}

// P1.5, P1.6: two readers of the same bytes go each its own way, and so does a copy.
func TestReadersKeepToThemselves(t *testing.T) {
	b := []byte{0xbd, 0x58, 0x04, 0x02}
	one, two := bits.From(b), bits.From(b)
	if one.Bits(3) != 5 || !one.Bit() {
		t.Error("the first one's numbers")
	}
	twin := *one
	one.Bits(65)
	stands(t, "the first", one, 28, api.ErrBitsWidth)
	stands(t, "the second", two, 32, api.ErrBitsLeft)
	if two.Bits(4) != 11 || two.Unary() != 2 {
		t.Error("the second one's numbers")
	}
	if twin.Unary() != 2 || twin.Var() != 300 || twin.Zig() != -1 {
		t.Error("the copy's numbers")
	}
	stands(t, "the second", two, 25, api.ErrBitsLeft)
	stands(t, "the copy", &twin, 1, api.OK)
}

// P1.6: what a reader reads may be written over behind From, and is not changed.
func TestFromKeepsNothing(t *testing.T) {
	room := []byte{0xaa, 0x05, 0x80, 0x07, 0xff, 0xff, 0xff}
	b := room[1:4]
	r := bits.From(b)
	if string(room) != "\xaa\x05\x80\x07\xff\xff\xff" {
		t.Error("From has changed what it was given")
	}
	for i := range room {
		room[i] = 0xff
	}
	if x, y := r.Var(), r.Var(); x != 5 || y != 7<<7 {
		t.Errorf("%d, %d: what was written over is read", x, y)
	}
	stands(t, "in the end", r, 0, api.OK)
	if string(room) != "\xff\xff\xff\xff\xff\xff\xff" {
		t.Error("the reader has changed what it was given")
	}
}

// P1.6: what lies behind the length is neither read nor written.
func TestFromLooksAtTheLengthAlone(t *testing.T) {
	room := []byte{0x80, 0x01, 0x02}
	r := bits.From(room[:1])
	r.Var()
	stands(t, "one byte", r, 8, api.ErrBitsShort)
	stands(t, "no byte", bits.From(room[:0]), 0, api.OK)
	if string(room) != "\x80\x01\x02" {
		t.Error("From has written there")
	}
}

// P1.6: every call ends without a panic, whatever the bytes are.
func TestReaderEndsAlways(t *testing.T) {
	rnd := rand.New(rand.NewSource(5))
	for range 20000 {
		b := make([]byte, rnd.Intn(30))
		for i := range b {
			b[i] = byte(rnd.Uint32() | rnd.Uint32())
		}
		r := bits.From(b)
		for range 20 {
			before, end := r.Left(), r.End()
			kinds := allKinds()
			x := kinds[rnd.Intn(len(kinds))](r)
			refused := r.End() != end && r.Left() == before
			if r.Left() < 0 || r.Left() > before || refused && x != 0 {
				t.Fatalf("of %x: %d, %d left of %d", b, x, r.Left(), before)
			}
		}
	}
}
