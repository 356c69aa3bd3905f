package exact

import (
	"fathom/api"
	"fathom/float"
	"fathom/limb"
)

// Path is points one behind the other: exact integrals of their broken line, their step line, a counter's rises.
type Path struct {
	count, odd  uint64 // all points; those whose values are not finite: with one of them the sums are 0
	first, last api.Point
	area        [valueWords]uint64 // taken twice: a whole number
	step        [valueWords]uint64
	rise        [valueWords]uint64
}

// Add takes a point behind the last one.
func (a *Path) Add(p api.Point) api.Errno {
	one := Path{count: 1, first: p, last: p}
	if !isFinite(p.V) {
		one.odd = 1
	}
	return a.Join(&one)
}

// Join takes another one's points, behind the last one.
func (a *Path) Join(o *Path) api.Errno {
	switch {
	case o == nil || o.count == 0:
		return api.OK
	case a.count+o.count > api.MaxCount:
		return api.ErrExactFull
	case a.count == 0:
		*a = *o
		return api.OK
	case o.first.T <= a.last.T:
		return api.ErrExactTime
	}
	a.addSums(o)
	a.count += o.count
	a.last = o.last
	return api.OK
}

// addSums takes another one's sums, and what lies between the last point here and the first one there.
func (a *Path) addSums(o *Path) {
	a.odd += o.odd
	if a.odd > 0 {
		clear(a.area[:])
		clear(a.step[:])
		clear(a.rise[:])
		return
	}
	a.link(o.first)
	addSum(a.area[:], o.area[:])
	addSum(a.step[:], o.step[:])
	addSum(a.rise[:], o.rise[:])
}

// link takes what lies between the last point and the next one; both are finite.
func (a *Path) link(next api.Point) {
	v, _ := valueOf(a.last.V)
	w, _ := valueOf(next.V)
	long := part{m: apart(a.last.T, next.T)}
	gather(a.area[:], v, long)
	gather(a.area[:], w, long)
	gather(a.step[:], v, long)
	gather(a.rise[:], w, once())
	if order, _ := float.Cmp(next.V, a.last.V); order >= 0 {
		gather(a.rise[:], v, part{neg: true, m: 1})
	}
}

// Count tells how many points there were.
func (a *Path) Count() uint64 { return a.count }

// Ends tells the first and the last point.
func (a *Path) Ends() (first, last api.Point, ok bool) { return a.first, a.last, a.count > 0 }

// Area tells the integral of the broken line.
func (a *Path) Area() (uint64, bool) { return a.tell(a.area[:], leastPower-1) }

// Step tells that of the step line.
func (a *Path) Step() (uint64, bool) { return a.tell(a.step[:], leastPower) }

// Rise tells the sum of a counter's rises.
func (a *Path) Rise() (uint64, bool) { return a.tell(a.rise[:], leastPower) }

// tell tells the nearest float of a sum times 2^e.
func (a *Path) tell(sum []uint64, e int) (uint64, bool) {
	switch {
	case a.count == 0:
		return 0, false
	case a.odd > 0:
		return api.NaN64, true
	}
	return over(numberOf(sum), count(1), e), true
}

// Bytes tells the state's form.
func (a *Path) Bytes() []byte {
	b := putNum(nil, a.count, 8)
	b = putNum(b, a.odd, 8)
	if a.count == 0 {
		return b
	}
	b = putPoint(b, a.first)
	b = putPoint(b, a.last)
	b = putNumber(b, numberOf(a.area[:]))
	b = putNumber(b, numberOf(a.step[:]))
	return putNumber(b, numberOf(a.rise[:]))
}

// putPoint lays a time such that bytes stand in its order, and a value.
func putPoint(b []byte, p api.Point) []byte {
	b = putNum(b, uint64(p.T)+1<<63, 8)
	return putNum(b, p.V, 8)
}

func (f *form) point() api.Point {
	t := f.num(8)
	return api.Point{T: int64(t - 1<<63), V: f.num(8)}
}

// PathOf reads a state's bytes.
func PathOf(b []byte) (*Path, api.Errno) {
	f, a := form{rest: b}, &Path{}
	a.count = f.num(8)
	a.odd = f.num(8)
	area, step, rise := number{}, number{}, number{}
	if a.count > 0 {
		a.first = f.point()
		a.last = f.point()
		area = f.number()
		step = f.number()
		rise = f.number()
	}
	if !f.whole() || !countsFit(a.count, a.odd) || !a.endsFit() || !a.sumsFit(area, step, rise) {
		return nil, api.ErrExactForm
	}
	lay(a.area[:], area)
	lay(a.step[:], step)
	lay(a.rise[:], rise)
	return a, api.OK
}

// endsFit tells whether so many points, of which so many are not finite, can have such ends.
func (a *Path) endsFit() bool {
	odd := uint64(0)
	if !isFinite(a.first.V) {
		odd++
	}
	if a.count > 1 && !isFinite(a.last.V) {
		odd++
	}
	switch {
	case odd > a.odd:
		return false
	case a.count < 2:
		return a.first == a.last
	}
	return a.first.T < a.last.T && apart(a.first.T, a.last.T) >= a.count-1
}

// sumsFit tells whether points of such ends can have the sums.
func (a *Path) sumsFit(area, step, rise number) bool {
	if a.odd > 0 || a.count == 0 {
		return area.isZero() && step.isZero() && rise.isZero()
	}
	integral := times(limb.From(apart(a.first.T, a.last.T)), greatest())
	rises := times(limb.From(a.count-1), greatest())
	return within(area.size, shifted(integral, 1)) && within(step.size, integral) && within(rise.size, shifted(rises, 1))
}
