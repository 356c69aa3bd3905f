package exact

import "fathom/api"

// Line are points' exact sums for the line of least squares.
type Line struct {
	count, odd uint64 // all points; those whose values are not finite, which are in no sum
	t          [timeWords]uint64
	tt         [timesWords]uint64
	v          [valueWords]uint64
	tv         [weighWords]uint64
}

// Add takes a point.
func (l *Line) Add(p api.Point) api.Errno {
	if l.count >= api.MaxCount {
		return api.ErrExactFull
	}
	l.count++
	v, ok := valueOf(p.V)
	if !ok {
		l.odd++
		return api.OK
	}
	t := timeOf(p.T)
	gather(l.t[:], t, once())
	gather(l.tt[:], t, t)
	gather(l.v[:], v, once())
	gather(l.tv[:], t, v)
	return api.OK
}

// Merge takes another one's points.
func (l *Line) Merge(o *Line) api.Errno {
	if o == nil {
		return api.OK
	}
	if l.count+o.count > api.MaxCount {
		return api.ErrExactFull
	}
	l.count += o.count
	l.odd += o.odd
	addSum(l.t[:], o.t[:])
	addSum(l.tt[:], o.tt[:])
	addSum(l.v[:], o.v[:])
	addSum(l.tv[:], o.tv[:])
	return api.OK
}

// Count tells how many points there were.
func (l *Line) Count() uint64 { return l.count }

// Slope tells the line's slope.
func (l *Line) Slope() (uint64, bool) {
	if l.count < 2 {
		return 0, false
	}
	return l.over(l.rise(), l.run()), true
}

// At tells the line's value at a time: with rise x and run y it is (sum(t t) sum(v) - sum(t) sum(t v) + t x) / y.
func (l *Line) At(t int64) (uint64, bool) {
	if l.count < 2 {
		return 0, false
	}
	base := spread(numberOf(l.tt[:]), numberOf(l.v[:]), numberOf(l.t[:]), numberOf(l.tv[:]))
	at := timeOf(t)
	there := l.rise().times(number{neg: at.neg, size: count(at.m).size})
	return l.over(base.plus(there), l.run()), true
}

// rise and run are n n times the covariance of times and values, and n n times the variance of times.
func (l *Line) rise() number {
	return spread(count(l.count), numberOf(l.tv[:]), numberOf(l.t[:]), numberOf(l.v[:]))
}

func (l *Line) run() number {
	t := numberOf(l.t[:])
	return spread(count(l.count), numberOf(l.tt[:]), t, t)
}

// over tells the nearest float of a quotient, if there is a line.
func (l *Line) over(p, run number) uint64 {
	if l.odd > 0 || run.isZero() {
		return api.NaN64
	}
	return over(p, run, leastPower)
}

// Bytes tells the state's form.
func (l *Line) Bytes() []byte {
	b := putNum(nil, l.count, 8)
	b = putNum(b, l.odd, 8)
	b = putNumber(b, numberOf(l.t[:]))
	b = putSize(b, numberOf(l.tt[:]).size)
	b = putNumber(b, numberOf(l.v[:]))
	return putNumber(b, numberOf(l.tv[:]))
}

// LineOf reads a state's bytes.
func LineOf(b []byte) (*Line, api.Errno) {
	f, l := form{rest: b}, &Line{}
	l.count = f.num(8)
	l.odd = f.num(8)
	t := f.number()
	tt := f.size()
	v := f.number()
	tv := f.number()
	if !f.whole() || !countsFit(l.count, l.odd) {
		return nil, api.ErrExactForm
	}
	n := count(l.count - l.odd)
	if !timesFit(n, t, tt) || !sumFits(n, v) || !within(tv.size, shifted(times(n.size, greatest()), 63)) {
		return nil, api.ErrExactForm
	}
	lay(l.t[:], t)
	lay(l.tt[:], tt)
	lay(l.v[:], v)
	lay(l.tv[:], tv)
	return l, api.OK
}

// timesFit tells whether so many times can have the sum, and their squares the other one.
func timesFit(n, t, tt number) bool {
	return within(t.size, shifted(n.size, 63)) && within(tt.size, shifted(n.size, 126)) && !spread(n, tt, t, t).neg
}
