package store

import (
	"fathom/api"
	"fathom/journal"
)

// The store's files; the beginnings are followed by a number.
const (
	manifestName = "manifest"
	freshName    = "manifest.new"
	segmentBegin = "seg."
	logBegin     = "log."
)

// manifestRows is how many rows the manifest's record has.
const manifestRows = 3

// shape is how a store lies on its disk: how often it was flushed, the next segment's number, the segments, the oldest first. One that stands is not written into: a change makes another one, so that a call that the disk breaks off has changed nothing.
type shape struct {
	epoch, next uint64
	parts       []part
}

// points, spans tell how many of them lie in the segments.
func (h shape) points() int {
	n := 0
	for _, p := range h.parts {
		n += p.Points
	}
	return n
}
func (h shape) spans() int {
	n := 0
	for _, p := range h.parts {
		n += p.Spans
	}
	return n
}

// manifestOf tells the manifest's record.
func manifestOf(k *known, h shape) [][]byte {
	var list, parts []byte
	for _, x := range k.list {
		list = laidKey(list, x.kind, x.key)
	}
	for _, p := range h.parts {
		parts = laid(laid(parts, p.Number, long), uint64(p.Step), long)
	}
	return [][]byte{laid(laid(nil, h.epoch, long), h.next, long), list, parts}
}

// layManifest has the disk have a store of this shape.
func (s *Store) layManifest(h shape) api.Errno {
	log, _, e := journal.Open(s.disk, freshName)
	if e != api.OK {
		return e
	}
	if e := log.Append(manifestOf(s.known, h)...); e != api.OK {
		return e
	}
	return s.disk.Rename(freshName, manifestName)
}

// readManifest has the store know what a manifest's record says; of the segments the numbers and the cell steps alone. It tells whether there may be such a record.
func (s *Store) readManifest(rows [][]byte) bool {
	if len(rows) != manifestRows {
		return false
	}
	first := &reader{left: rows[0]}
	s.shape.epoch, s.shape.next = first.number(long), first.number(long)
	return !first.bad && !first.more() && s.readKnown(rows[1]) && s.readParts(rows[2])
}

func (s *Store) readKnown(row []byte) bool {
	r := &reader{left: row}
	for r.more() {
		x := r.series()
		if r.bad || s.known.kindOf(x.key) != api.KindNone || !s.known.hasRoom([]series{x}) {
			return false
		}
		s.known.add(x)
	}
	return !r.bad
}

func (s *Store) readParts(row []byte) bool {
	r := &reader{left: row}
	numbers := map[uint64]int{}
	for r.more() {
		x := api.Segment{Number: r.number(long), Step: int64(r.number(long))}
		numbers[x.Number]++
		r.want(x.Number < s.shape.next && numbers[x.Number] == 1)
		s.shape.parts = append(s.shape.parts, part{Segment: x})
	}
	return !r.bad && len(s.shape.parts) <= api.MaxSegs
}
