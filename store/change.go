package store

import (
	"maps"
	"math"
	"slices"

	"fathom/api"
	"fathom/head"
	"fathom/journal"
	"fathom/merge"
	"fathom/roll"
	"fathom/segment"
)

// end has the store write no more, behind an error of its disk.
func (s *Store) end(e api.Errno) api.Errno {
	s.err = e
	return api.ErrStoreOff
}

// logHas tells whether the journal has room for a record.
func (s *Store) logHas(rows [][]byte) bool { return s.log.Size()+sizeOf(rows) <= api.MaxLog }

func (s *Store) write(l []api.Write) api.Errno {
	if s.err != api.OK {
		return api.ErrStoreOff
	}
	b, e := batchOf(s.known, l)
	if e != api.OK || len(l) == 0 {
		return e
	}
	rows := b.rows()
	if !s.known.hasRoom(b.fresh) || s.points()+b.points > api.MaxPoints || !s.logHas(rows) {
		return api.ErrStoreFull
	}
	if e := s.log.Append(rows...); e != api.OK {
		return s.end(e)
	}
	s.put(b)
	if s.isDue() {
		return s.flush()
	}
	return api.OK
}

// isDue tells whether the head is to be flushed, and may be.
func (s *Store) isDue() bool {
	return (s.head.Points() >= s.config.Flush || s.log.Size() >= api.MaxLog/2) && s.mayFlush()
}

func (s *Store) delete(match []api.Matcher, span api.Span) (int, api.Errno) {
	if s.err != api.OK {
		return 0, api.ErrStoreOff
	}
	numbers, e := s.asked(match, span)
	if e != api.OK || len(numbers) == 0 {
		return 0, e
	}
	rows := deletionRows(numbers, span)
	if s.spans()+len(numbers) > api.MaxSpans || !s.logHas(rows) {
		return 0, api.ErrStoreFull
	}
	if e := s.log.Append(rows...); e != api.OK {
		return 0, s.end(e)
	}
	s.hide(numbers, span)
	return len(numbers), api.OK
}

// mayFlush tells whether there may be one segment more. (Numbers don't wrap: behind the last one nothing is flushed. No store of its own making comes so far.)
func (s *Store) mayFlush() bool {
	return len(s.shape.parts) < api.MaxSegs && s.shape.epoch < math.MaxUint64 && s.shape.next < math.MaxUint64
}

func (s *Store) flush() api.Errno {
	switch {
	case s.err != api.OK:
		return api.ErrStoreOff
	case s.isHeadEmpty():
		return api.OK
	case !s.mayFlush():
		return api.ErrStoreFull
	}
	p, e := s.layPart(s.headRows(), 0)
	if e != api.OK {
		return s.end(e)
	}
	fresh := s.shape
	fresh.epoch++
	fresh.next++
	fresh.parts = append(slices.Clone(fresh.parts), p)
	log, e := s.turn(fresh)
	if e != api.OK {
		return s.end(e)
	}
	s.shape, s.log, s.head = fresh, log, head.New()
	return api.OK
}

// turn has the disk have a shape of the next epoch, and begins that one's journal.
func (s *Store) turn(fresh shape) (*journal.Log, api.Errno) {
	if e := s.layManifest(fresh); e != api.OK {
		return nil, e
	}
	if e := s.disk.Remove(logName(s.shape.epoch)); e != api.OK {
		return nil, e
	}
	log, _, e := journal.Open(s.disk, logName(fresh.epoch))
	return log, e
}

// headRows tells the head's runs as a segment's rows.
func (s *Store) headRows() []api.Row {
	var l []api.Row
	for _, key := range s.head.Keys() {
		l = append(l, api.Row{Key: key, Kind: s.known.kindOf(key), Run: s.head.Run(key)})
	}
	return l
}

// layPart has the disk have a segment of rows, under the next number.
func (s *Store) layPart(rows []api.Row, step int64) (part, api.Errno) {
	// Rows that stand in a store are built, and what was built is a part: the limits see to that.
	b, _ := segment.Build(s.config.Block, rows)
	p, _ := partOf(b, s.shape.next, step)
	name := segmentName(p.Number)
	if e := s.disk.Append(name, b); e != api.OK {
		return part{}, e
	}
	return p, s.disk.Sync(name)
}

func (s *Store) compact(from, to int) api.Errno {
	switch {
	case s.err != api.OK:
		return api.ErrStoreOff
	case from < 0 || from >= to || to > len(s.shape.parts):
		return api.ErrStoreNone
	case s.shape.next == math.MaxUint64:
		return api.ErrStoreFull
	}
	old := s.shape.parts[from:to]
	rows := s.joinedRows(old, from == 0)
	step := int64(0)
	if from == 0 && s.mayKeepCells(rows) {
		step = s.config.Step
		s.giveCells(rows)
	}
	fresh := s.shape
	var made []part
	if len(rows) > 0 {
		p, e := s.layPart(rows, step)
		if e != api.OK {
			return s.end(e)
		}
		made = append(made, p)
		fresh.next++
	}
	fresh.parts = slices.Concat(s.shape.parts[:from], made, s.shape.parts[to:])
	if e := s.replace(fresh, old); e != api.OK {
		return s.end(e)
	}
	s.shape = fresh
	return api.OK
}

// replace has the disk have a shape, and removes the files of the parts that are not in it any more.
func (s *Store) replace(fresh shape, old []part) api.Errno {
	if e := s.layManifest(fresh); e != api.OK {
		return e
	}
	for _, p := range old {
		if e := s.disk.Remove(segmentName(p.Number)); e != api.OK {
			return e
		}
	}
	return api.OK
}

// joinedRows tells the rows of some parts together. Of the oldest parts the spans hide nothing any more.
func (s *Store) joinedRows(parts []part, oldest bool) []api.Row {
	keys := map[string]int{}
	for _, p := range parts {
		for _, key := range p.file.Keys() {
			keys[key]++
		}
	}
	var l []api.Row
	for _, key := range slices.Sorted(maps.Keys(keys)) {
		runs, _ := runsOf(parts, key, allTimes())
		r, _ := merge.All(runs) // they are runs: segments have no others
		if oldest {
			r.Spans = nil
		}
		if len(r.Points)+len(r.Spans) > 0 {
			l = append(l, api.Row{Key: key, Kind: s.known.kindOf(key), Run: r})
		}
	}
	return l
}

// runsOf tells what parts have of a series in a span, the newest first, and how many blocks were decoded.
func runsOf(parts []part, key string, span api.Span) (l []api.Run, reads int64) {
	for _, p := range slices.Backward(parts) {
		if r, n, there := p.run(key, span); there {
			l = append(l, r)
			reads += n
		}
	}
	return l, reads
}

// windows tells those of the cells that the store keeps.
func (s *Store) windows() api.Window { return api.Window{Step: s.config.Step} }

// mayKeepCells tells whether cells are kept, and those of these rows are not too many. They are counted ahead of being made: there may be as many as points.
func (s *Store) mayKeepCells(rows []api.Row) bool {
	if s.config.Step == 0 || len(rows) == 0 {
		return false
	}
	n := 0
	for _, r := range rows {
		n += windowsOf(s.windows(), r.Run.Points)
	}
	return n <= api.MaxKept
}

// windowsOf tells how many windows have points of l, whose times rise.
func windowsOf(w api.Window, l []api.Point) int {
	n := 0
	last := int64(0)
	for _, p := range l {
		if n == 0 || p.T > last {
			n++
			last, _ = roll.Last(w, p.T) // its step is above 0
		}
	}
	return n
}

func (s *Store) giveCells(rows []api.Row) {
	for i := range rows {
		// The times rise, and there are few windows.
		rows[i].Cells, _ = roll.Cells(s.windows(), rows[i].Run.Points)
	}
}
