package segment

import (
	"bytes"

	"fathom/api"
	"fathom/block"
)

// entry is what the index says of a row.
type entry struct {
	bare   api.Row // without its points and cells
	bounds []int   // where each block begins, and where the last one ends
	cells  int     // how many
	sum    uint32  // that of the cells
	end    int     // where they end
}

func (x entry) blocks() int { return len(x.bounds) - 1 }

// indexOf tells the index of a segment's bytes, if the foot's Sums are right.
func indexOf(b []byte) ([]byte, api.Errno) {
	if len(b) > api.MaxSegment {
		return nil, api.ErrSegmentLong
	}
	if len(b) < headSize+word+footSize || !bytes.HasPrefix(b, []byte(mark)) {
		return nil, api.ErrSegmentForm
	}
	foot := b[len(b)-footSize:]
	r := &reader{left: foot}
	size, own, last := int(r.number(word)), uint32(r.number(word)), uint32(r.number(word))
	if last != block.Sum(foot[:2*word]) {
		return nil, api.ErrSegmentSum
	}
	from := len(b) - footSize - size
	if from < headSize {
		return nil, api.ErrSegmentForm
	}
	index := b[from : from+size]
	if own != sumOf(b[:headSize], index) {
		return nil, api.ErrSegmentSum
	}
	return index, api.OK
}

// sizeOf tells the size that a segment's head says.
func sizeOf(b []byte) int {
	r := &reader{left: b[len(mark):headSize]}
	return int(r.number(2))
}

// entries tells what an index says of each row, and where the last one's bytes end; good is whether there is such an index.
func entries(index []byte) (l []entry, end int, good bool) {
	r := &reader{left: index}
	end = headSize
	for range r.count(entrySize) {
		x := r.entry(end)
		l = append(l, x)
		end = x.end
	}
	r.want(len(l) <= api.MaxSeries && len(r.left) == 0)
	r.want(rise(l, func(x entry) string { return x.bare.Key }))
	return l, end, !r.bad
}

// reader takes things from the front of bytes. It is bad for good, and tells noughts, once something stands there that may not.
type reader struct {
	left []byte
	bad  bool
}

func (r *reader) want(good bool) { r.bad = r.bad || !good }

func (r *reader) bytes(size int) []byte {
	r.want(size <= len(r.left))
	if r.bad {
		return nil
	}
	b := r.left[:size]
	r.left = r.left[size:]
	return b
}

func (r *reader) number(size int) uint64 {
	x := uint64(0)
	for _, c := range r.bytes(size) {
		x = x<<8 | uint64(c)
	}
	return x
}

// count takes the number of things of so many bytes each at least: there are never more than what is left has room for, so that nobody goes on for long where there is nothing.
func (r *reader) count(least int) int {
	n := int(r.number(word))
	r.want(n <= len(r.left)/least)
	if r.bad {
		return 0
	}
	return n
}

// entry takes what the index says of a row whose bytes begin at a place.
func (r *reader) entry(at int) entry {
	x := entry{bounds: []int{at}}
	x.bare.Key = string(r.bytes(int(r.number(2))))
	x.bare.Kind = int(r.number(1))
	for range r.count(word) {
		size := int(r.number(word))
		r.want(size > 0)
		at += size
		x.bounds = append(x.bounds, at)
	}
	for range r.count(spanSize) {
		from, last := int64(r.number(8)), int64(r.number(8))
		x.bare.Run.Spans = append(x.bare.Run.Spans, api.Span{From: from, Last: last})
	}
	x.cells = int(r.number(word))
	size := int(r.number(word))
	x.sum = uint32(r.number(word))
	x.end = at + size
	if x.cells == 0 {
		r.want(size == 0 && x.sum == 0)
	} else {
		r.want(size > word && x.cells <= api.MaxCells)
	}
	r.want(mayBe(x.bare))
	return x
}

// cellsOf tells the cells whose part these bytes are, of so many and with this Sum.
func cellsOf(part []byte, count int, sum uint32) ([]api.Cell, api.Errno) {
	own := part[:len(part)-word]
	behind := &reader{left: part[len(own):]}
	if uint32(behind.number(word)) != sum || block.Sum(own) != sum {
		return nil, api.ErrSegmentSum
	}
	r := &reader{left: own}
	var l []api.Cell
	for len(l) < count && !r.bad {
		first := int64(r.number(8))
		state := r.bytes(int(r.number(2)))
		l = append(l, api.Cell{First: first, State: bytes.Clone(state)})
	}
	if r.bad || len(r.left) > 0 || !cellsMayBe(l) {
		return nil, api.ErrSegmentForm
	}
	return l, api.OK
}
