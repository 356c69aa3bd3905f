package store

import (
	"math"
	"strconv"

	"fathom/api"
	"fathom/roll"
	"fathom/segment"
)

// part is a segment of the store: what is told of it, and its rows.
type part struct {
	api.Segment
	file *segment.Segment
}

func segmentName(number uint64) string { return segmentBegin + strconv.FormatUint(number, 10) }
func logName(epoch uint64) string      { return logBegin + strconv.FormatUint(epoch, 10) }

// partOf tells the part that bytes are, under a number and with a cell step. It counts by heads alone, as what is too much is not to be decoded.
func partOf(b []byte, number uint64, step int64) (part, bool) {
	file, e := segment.Open(b)
	if e != api.OK {
		return part{}, false
	}
	p := part{file: file, Segment: api.Segment{Number: number, Step: step}}
	for i := range file.Keys() {
		heads, e := file.Heads(i)
		if e != api.OK {
			return part{}, false
		}
		cells, e := file.Cells(i)
		if e != api.OK {
			return part{}, false
		}
		spans, _ := file.Spans(i) // there is such a row
		p.Series++
		p.Points += pointsOf(heads)
		p.Spans += len(spans)
		p.Cells += len(cells)
	}
	return p, true
}

func pointsOf(heads []api.BlockHead) int {
	n := 0
	for _, h := range heads {
		n += h.Count
	}
	return n
}

// allTimes is the span that has them all.
func allTimes() api.Span { return api.Span{From: math.MinInt64, Last: math.MaxInt64} }

// isSound tells whether each of a part's rows is of a known series, and has cells just as the part's cell step says.
func (p part) isSound(k *known) bool {
	if p.file.Check() != api.OK || p.Step < 0 || p.Cells > api.MaxKept {
		return false
	}
	for i, key := range p.file.Keys() {
		// Check has told all of these ahead.
		kind, _ := p.file.Kind(i)
		heads, _ := p.file.Heads(i)
		cells, _ := p.file.Cells(i)
		if k.kindOf(key) != kind || !p.mayHave(len(heads) > 0, cells) {
			return false
		}
	}
	return true
}

// mayHave tells whether a row, with points or without, may have these cells.
func (p part) mayHave(points bool, cells []api.Cell) bool {
	if p.Step == 0 {
		return len(cells) == 0
	}
	_, e := roll.Within(p.windows(), cells, allTimes())
	return e == api.OK && (len(cells) > 0 || !points)
}

// windows tells those of the part's cells.
func (p part) windows() api.Window { return api.Window{Step: p.Step} }

// run tells what the part has of a series in a span: the points there, all spans, and how many blocks were decoded.
func (p part) run(key string, span api.Span) (r api.Run, reads int64, there bool) {
	i, there := p.file.Find(key)
	if !there {
		return api.Run{}, 0, false
	}
	ahead := p.file.Reads()
	// Open has read it all, or it was built here: nothing is refused.
	r.Points, _ = p.file.Points(i, span)
	r.Spans, _ = p.file.Spans(i)
	return r, p.file.Reads() - ahead, true
}
