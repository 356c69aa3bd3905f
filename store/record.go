package store

import "fathom/api"

// A record of the journal begins with one of these.
const (
	batchMark    = 1
	deletionMark = 2
)

// What the journal lays ahead of a record, and ahead of each row.
const (
	recordHead = 8
	rowHead    = 4
)

// sizeOf tells how many bytes a record has in the journal.
func sizeOf(rows [][]byte) int {
	n := recordHead
	for _, r := range rows {
		n += rowHead + len(r)
	}
	return n
}

// rows tells a batch's record.
func (b *batch) rows() [][]byte {
	l := [][]byte{{batchMark}}
	for _, w := range b.writes {
		row := laid(laidKey(nil, w.kind, w.key), uint64(len(w.points)), word)
		for _, p := range w.points {
			row = laid(laidTime(row, p.T), p.V, long)
		}
		l = append(l, row)
	}
	return l
}

// deletionRows tells a deletion's record.
func deletionRows(numbers []uint64, span api.Span) [][]byte {
	var list []byte
	for _, n := range numbers {
		list = laid(list, n, word)
	}
	return [][]byte{laidTime(laidTime([]byte{deletionMark}, span.From), span.Last), list}
}

// redo does what a record says. It tells whether there may be such a record, and all that lies in the store now.
func (s *Store) redo(rows [][]byte) bool {
	if len(rows) < 2 || len(rows[0]) == 0 {
		return false
	}
	first := &reader{left: rows[0]}
	done := false
	switch first.number(1) {
	case batchMark:
		done = s.redoBatch(rows[1:])
	case deletionMark:
		span := api.Span{From: first.time(), Last: first.time()}
		done = span.From <= span.Last && len(rows) == 2 && s.redoDeletion(rows[1], span)
	}
	return done && !first.bad && !first.more() && s.isWithin()
}

func (s *Store) redoBatch(rows [][]byte) bool {
	b := newBatch(s.known)
	for _, row := range rows {
		x, points, good := writeOf(row)
		if !good || !b.take(x, points) {
			return false
		}
	}
	if isLong(len(b.writes), b.points) || !s.known.hasRoom(b.fresh) {
		return false
	}
	s.put(b)
	return true
}

// writeOf reads a row of a batch.
func writeOf(row []byte) (series, []api.Point, bool) {
	r := &reader{left: row}
	x := r.series()
	count := int(r.number(word))
	// Ahead of taking them: a count alone may be far more than there is.
	r.want(len(r.left) == count*pointSize)
	var l []api.Point
	for r.more() {
		l = append(l, api.Point{T: r.time(), V: r.number(long)})
	}
	return x, l, !r.bad
}

func (s *Store) redoDeletion(row []byte, span api.Span) bool {
	r := &reader{left: row}
	var numbers []uint64
	for r.more() {
		n := r.number(word)
		r.want(n < uint64(len(s.known.list)) && (len(numbers) == 0 || n > numbers[len(numbers)-1]))
		numbers = append(numbers, n)
	}
	if r.bad || len(numbers) == 0 {
		return false
	}
	s.hide(numbers, span)
	return true
}
