package block

import (
	"fathom/api"
	"fathom/bits"
)

// mark is every block's first byte.
const mark = 0xb5

// headSize is how many bytes a head has, its Sum with them.
const headSize = 51

// head is all that a block's head says: two of them that are equal are one head.
type head struct {
	api.BlockHead
	coding int
	times  int // bytes of the times
	values int // bytes of the values
}

// size tells how many bytes the whole block has.
func (h head) size() int { return headSize + h.times + h.values + sumSize }

// bytes tells a head's bytes, without their Sum.
func (h head) bytes() []byte {
	w := &bits.Writer{}
	w.Bits(mark, 8)
	w.Bits(uint64(h.Kind), 8)
	w.Bits(uint64(h.coding), 8)
	w.Bits(uint64(h.Count), 16)
	w.Bits(uint64(h.Nans), 16)
	w.Bits(uint64(h.First), 64)
	w.Bits(uint64(h.Last), 64)
	w.Bits(h.Least, 64)
	w.Bits(h.Greatest, 64)
	w.Bits(uint64(h.times), 32)
	w.Bits(uint64(h.values), 32)
	b, _ := w.Done() // each number has room: none is refused
	return b
}

// headOf tells the head whose bytes these are, whether it may be or not.
func headOf(b []byte) head {
	r := bits.From(b)
	r.Bits(8) // the mark
	h := head{}
	h.Kind = int(r.Bits(8))
	h.coding = int(r.Bits(8))
	h.Count = int(r.Bits(16))
	h.Nans = int(r.Bits(16))
	h.First = int64(r.Bits(64))
	h.Last = int64(r.Bits(64))
	h.Least = r.Bits(64)
	h.Greatest = r.Bits(64)
	h.times = int(r.Bits(32))
	h.values = int(r.Bits(32))
	h.Bytes = h.size()
	return h
}

// headAt tells the head in front of bytes.
func headAt(b []byte) (head, api.Errno) {
	if len(b) < headSize {
		return head{}, api.ErrBlockShort
	}
	if b[0] != mark {
		return head{}, api.ErrBlockForm
	}
	own, whole := unsealed(b[:headSize])
	if !whole {
		return head{}, api.ErrBlockSum
	}
	h := headOf(own)
	if !h.mayBe() {
		return head{}, api.ErrBlockForm
	}
	return h, api.OK
}

// mayBe tells whether a block may have this head, as far as no point is asked.
func (h head) mayBe() bool {
	return isKind(h.Kind) && isCoding(h.coding) && isCount(h.Count) && h.Nans <= h.Count && h.spanMayBe()
}

// spanMayBe tells whether the last time is where it may be: with the first one, if there is one point.
func (h head) spanMayBe() bool {
	if h.Count == 1 {
		return h.Last == h.First
	}
	return h.Last > h.First
}

func isCoding(coding int) bool { return coding >= api.CodePlain && coding <= api.CodeDecimal }
