package hist

import (
	"fathom/api"
	"fathom/float"
)

// How long a form's parts are, in bytes: what stands ahead of the buckets, the ends, and each bucket.
const (
	mark      = 0x48
	headSize  = 1 + 1 + 8 + 4
	endsSize  = 8 + 8
	countSize = 4 + 8
)

// Bytes tells its state; Of reads one.
func (h *Hist) Bytes() []byte {
	b := []byte{mark, byte(h.bits)}
	b = laid(b, h.nans, 8)
	b = laid(b, uint64(len(h.counts)), 4)
	least, greatest, some := h.Ends()
	if !some {
		return b
	}
	b = laid(laid(b, least, 8), greatest, 8)
	buckets, _ := h.ordered()
	for _, bucket := range buckets {
		b = laid(b, uint64(bucket), 4)
		b = laid(b, h.counts[bucket], 8)
	}
	return b
}
func Of(b []byte) (*Hist, api.Errno) {
	if len(b) < headSize || b[0] != mark {
		return nil, api.ErrHistForm
	}
	h, e := New(int(b[1]))
	if e != api.OK {
		return nil, api.ErrHistForm
	}
	nans, buckets := taken(b[2:], 8), taken(b[10:], 4)
	b = b[headSize:]
	if h.Add(api.NaN64, nans) != api.OK || !h.takeCounts(b, buckets) {
		return nil, api.ErrHistForm
	}
	return h, api.OK
}

// takeCounts takes the ends and so many buckets, of a histogram that has none yet; it tells false, if these are none that values make.
func (h *Hist) takeCounts(b []byte, buckets uint64) bool {
	if buckets == 0 {
		return len(b) == 0
	}
	if uint64(len(b)) != endsSize+buckets*countSize {
		return false
	}
	least, greatest := taken(b, 8), taken(b[8:], 8)
	if isNaN(least) || isNaN(greatest) {
		return false
	}
	h.least, h.greatest = float.Key(least), float.Key(greatest)
	return h.takeBuckets(b[endsSize:]) && h.least <= h.greatest && (h.count > 1 || h.least == h.greatest)
}

// takeBuckets takes one bucket or more. They rise from the one of the least value to that of the greatest: so each is one of these bits, and has more than NaNs.
func (h *Hist) takeBuckets(b []byte) bool {
	last := h.bucketOf(h.least)
	for at := 0; at < len(b); at += countSize {
		bucket, n := uint32(taken(b[at:], 4)), taken(b[at+4:], 8)
		if (at == 0) != (bucket == last) || bucket < last || n == 0 || n > h.room() {
			return false
		}
		h.counts[bucket] = n
		h.count += n
		last = bucket
	}
	return last == h.bucketOf(h.greatest)
}

// laid lays a number in so many bytes, the highest first.
func laid(b []byte, n uint64, size int) []byte {
	for i := range size {
		b = append(b, byte(n>>(8*(size-1-i))))
	}
	return b
}

// taken tells the number in the first so many bytes.
func taken(b []byte, size int) uint64 {
	n := uint64(0)
	for _, c := range b[:size] {
		n = n<<8 | uint64(c)
	}
	return n
}
