package bits

import "fathom/api"

const (
	chunkBytes = 120
	chunkBits  = chunkBytes * 8
)

// chunk is bytes that are full. Nothing writes into it again, so that copies of a Writer may share it and still go each its own way.
type chunk struct {
	ahead *chunk
	bytes [chunkBytes]byte
}

// Writer lays bits one behind the other.
type Writer struct {
	full    *chunk           // the newest of the full ones
	last    [chunkBytes]byte // the bytes behind them; what isn't laid yet is 0 there
	n       int              // bits in all
	refused api.Errno        // the first refusal's error
}

// Bit lays one bit, 1 for true.
func (w *Writer) Bit(b bool) {
	if b {
		w.put(1, 1)
	} else {
		w.put(0, 1)
	}
}

// Bits lays the n bits of x, the highest first.
func (w *Writer) Bits(x uint64, n int) {
	if n < 0 || n > maxWidth || x>>n != 0 {
		w.refuse(api.ErrBitsWidth)
		return
	}
	w.put(x, n)
}

// Unary lays n ones and a nought.
func (w *Writer) Unary(n int) {
	if n < 0 || n > api.MaxUnary {
		w.refuse(api.ErrBitsLong)
		return
	}
	w.put(uint64(1)<<n-1, n)
	w.put(0, 1)
}

// Var lays x in as few groups as hold it, its lowest bits first.
func (w *Writer) Var(x uint64) {
	for ; x > groupMask; x >>= groupHeld {
		w.put(groupMore|(x&groupMask), groupWide)
	}
	w.put(x, groupWide)
}

// Zig lays a number whose sign stands in the lowest bit, so that those near 0 are short on both sides.
func (w *Writer) Zig(x int64) { w.Var(uint64(x)<<1 ^ uint64(x>>63)) }

// Len tells how many bits have been laid.
func (w *Writer) Len() int { return w.n }

// Done tells the bytes of what has been laid, or the first refusal's error.
func (w *Writer) Done() ([]byte, api.Errno) {
	if w.refused != api.OK {
		return nil, w.refused
	}
	b := make([]byte, (w.n+7)/8)
	at := w.n / chunkBits * chunkBytes
	copy(b[at:], w.last[:])
	for c := w.full; c != nil; c = c.ahead {
		at -= chunkBytes
		copy(b[at:], c.bytes[:])
	}
	return b, api.OK
}

func (w *Writer) refuse(e api.Errno) {
	if w.refused == api.OK {
		w.refused = e
	}
}

// put lays the lowest n bits of x, the highest of them first; behind a refusal nothing.
func (w *Writer) put(x uint64, n int) {
	if w.refused != api.OK {
		return
	}
	for n > 0 {
		room := 8 - w.n%8
		k := min(room, n)
		n -= k
		part := byte(x>>n) & lowOnes(k)
		w.last[w.n%chunkBits/8] |= part << (room - k)
		w.n += k
		if w.n%chunkBits == 0 {
			w.keepLast()
		}
	}
}

// keepLast puts the last bytes, which are full, to the full ones.
func (w *Writer) keepLast() {
	w.full = &chunk{ahead: w.full, bytes: w.last}
	w.last = [chunkBytes]byte{}
}
