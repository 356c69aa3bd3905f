package agg

import (
	"fathom/api"
	"fathom/exact"
)

// Where counts stand in the forms of exact: in each, how many in all comes first, then how many of them are not finite, each in word bytes; of values these are NaNs, and infinities of either sign.
const (
	word = 8
	nans = word
	odd  = word
	odds = 3 // of values: how many counts of those that are not finite
)

// laidRow lays a row of bytes behind its length, which two bytes hold: exact's forms are short.
func laidRow(b, row []byte) []byte {
	return append(append(b, byte(len(row)>>8), byte(len(row))), row...)
}

// laid lays whether a value counts, and if so the least and the greatest.
func (r reach) laid(b []byte) []byte {
	if !r.some {
		return append(b, 0)
	}
	return laidBits(laidBits(append(b, 1), r.least), r.greatest)
}

func laidBits(b []byte, v uint64) []byte {
	for i := range word {
		b = append(b, byte(v>>(8*(word-1-i))))
	}
	return b
}

// bitsOf tells the first eight bytes, the highest first.
func bitsOf(b []byte) uint64 {
	v := uint64(0)
	for _, c := range b[:word] {
		v = v<<8 | uint64(c)
	}
	return v
}

// takenRow tells the row at the front, and what is left behind it.
func takenRow(b []byte) (row, left []byte, good bool) {
	if len(b) < 2 {
		return nil, nil, false
	}
	n := int(b[0])<<8 | int(b[1])
	if n > len(b)-2 {
		return nil, nil, false
	}
	return b[2 : 2+n], b[2+n:], true
}

// takenReach tells a reach that is just these bytes.
func takenReach(b []byte) (reach, bool) {
	switch {
	case len(b) == 1 && b[0] == 0:
		return reach{}, true
	case len(b) != 1+2*word || b[0] != 1:
		return reach{}, false
	}
	r := reach{some: true, least: bitsOf(b[1:]), greatest: bitsOf(b[1+word:])}
	return r, !isNaN(r.least) && !isNaN(r.greatest) && !below(r.greatest, r.least)
}

// stateOf reads a state: its three rows, and its reach; and whether these may be those of the same points.
func stateOf(b []byte) (*State, bool) {
	var rows [3][]byte
	for i := range rows {
		row, left, good := takenRow(b)
		if !good {
			return nil, false
		}
		rows[i], b = row, left
	}
	moments, e := exact.MomentsOf(rows[0])
	if e != api.OK {
		return nil, false
	}
	path, e := exact.PathOf(rows[1])
	if e != api.OK {
		return nil, false
	}
	line, e := exact.LineOf(rows[2])
	if e != api.OK {
		return nil, false
	}
	r, good := takenReach(b)
	s := &State{bag: Bag{moments: *moments, reach: r}, path: *path, line: *line}
	return s, good && agree(rows) && s.reachFits()
}

// agree tells whether three rows, which exact has taken, count the same.
func agree(rows [3][]byte) bool {
	values, path, line := rows[0], rows[1], rows[2]
	n := uint64(0)
	for i := range odds {
		n += bitsOf(values[nans+i*word:])
	}
	for _, row := range [][]byte{path, line} {
		if bitsOf(row) != bitsOf(values) || bitsOf(row[odd:]) != n {
			return false
		}
	}
	return true
}

// reachFits tells whether there is a reach just where a value counts, and whether the first and the last value lie in it, where they do.
func (s *State) reachFits() bool {
	if s.bag.reach.some != (s.bag.moments.Nans() < s.Count()) {
		return false
	}
	first, last, _ := s.path.Ends()
	for _, p := range []api.Point{first, last} {
		if s.Count() > 0 && !isNaN(p.V) && !s.bag.reach.holds(p.V) {
			return false
		}
	}
	return true
}
