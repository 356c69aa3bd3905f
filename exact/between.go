package exact

import "fathom/api"

// Slope tells the slope from one point to another.
func Slope(p, q api.Point) (uint64, api.Errno) {
	if q.T <= p.T {
		return 0, api.ErrExactTime
	}
	v, ok := valueOf(p.V)
	w, too := valueOf(q.V)
	if !ok || !too {
		return api.NaN64, api.OK
	}
	rise := [valueWords]uint64{}
	gather(rise[:], w, once())
	gather(rise[:], v, part{neg: true, m: 1})
	return over(numberOf(rise[:]), count(apart(p.T, q.T)), leastPower), api.OK
}

// Between tells the broken line's value at a time between two points. With d from p to q and s from p to t it is (v (d - s) + w s) / d.
func Between(p, q api.Point, t int64) (uint64, api.Errno) {
	switch {
	case q.T <= p.T || t < p.T || t > q.T:
		return 0, api.ErrExactTime
	case t == p.T:
		return p.V, api.OK
	case t == q.T:
		return q.V, api.OK
	}
	v, ok := valueOf(p.V)
	w, too := valueOf(q.V)
	if !ok || !too {
		return api.NaN64, api.OK
	}
	mix := [valueWords]uint64{}
	gather(mix[:], v, part{m: apart(t, q.T)})
	gather(mix[:], w, part{m: apart(p.T, t)})
	return over(numberOf(mix[:]), count(apart(p.T, q.T)), leastPower), api.OK
}

// apart tells a later time less an earlier one: below 2^64, though no int64 may hold it.
func apart(early, late int64) uint64 { return uint64(late) - uint64(early) }
