package exact

import "fathom/api"

// Pairs are pairs of values' exact sums, and those of their products.
type Pairs struct {
	count, odd uint64 // all pairs; those of which one is not finite, which are in no sum
	a, b       [valueWords]uint64
	aa, bb, ab [squareWords]uint64
}

// Add takes a pair.
func (p *Pairs) Add(a, b uint64) api.Errno {
	if p.count >= api.MaxCount {
		return api.ErrExactFull
	}
	p.count++
	x, ok := valueOf(a)
	y, too := valueOf(b)
	if !ok || !too {
		p.odd++
		return api.OK
	}
	gather(p.a[:], x, once())
	gather(p.aa[:], x, x)
	gather(p.b[:], y, once())
	gather(p.bb[:], y, y)
	gather(p.ab[:], x, y)
	return api.OK
}

// Merge takes another one's pairs.
func (p *Pairs) Merge(o *Pairs) api.Errno {
	if o == nil {
		return api.OK
	}
	if p.count+o.count > api.MaxCount {
		return api.ErrExactFull
	}
	p.count += o.count
	p.odd += o.odd
	addSum(p.a[:], o.a[:])
	addSum(p.aa[:], o.aa[:])
	addSum(p.b[:], o.b[:])
	addSum(p.bb[:], o.bb[:])
	addSum(p.ab[:], o.ab[:])
	return api.OK
}

// Count tells how many pairs there were.
func (p *Pairs) Count() uint64 { return p.count }

// Cov tells the covariance.
func (p *Pairs) Cov() (uint64, bool) {
	switch {
	case p.count == 0:
		return 0, false
	case p.odd > 0:
		return api.NaN64, true
	}
	n := count(p.count)
	return over(p.both(), n.times(n), leastTwice), true
}

// Corr tells the correlation: the root of its square, with its sign.
func (p *Pairs) Corr() (uint64, bool) {
	if p.count < 2 {
		return 0, false
	}
	x, yw := p.both(), p.first().times(p.second())
	if p.odd > 0 || yw.isZero() {
		return api.NaN64, true
	}
	return wide().nearest(x.neg, root(x.times(x).size, yw.size, 0)), true
}

// Fit tells the slope of the second against the first.
func (p *Pairs) Fit() (uint64, bool) {
	if p.count < 2 {
		return 0, false
	}
	y := p.first()
	if p.odd > 0 || y.isZero() {
		return api.NaN64, true
	}
	return over(p.both(), y, 0), true
}

// both, first and second are n n times the covariance, the first ones' variance, the second ones'.
func (p *Pairs) both() number {
	return spread(count(p.count), numberOf(p.ab[:]), numberOf(p.a[:]), numberOf(p.b[:]))
}

func (p *Pairs) first() number {
	a := numberOf(p.a[:])
	return spread(count(p.count), numberOf(p.aa[:]), a, a)
}

func (p *Pairs) second() number {
	b := numberOf(p.b[:])
	return spread(count(p.count), numberOf(p.bb[:]), b, b)
}

// Bytes tells the state's form.
func (p *Pairs) Bytes() []byte {
	b := putNum(nil, p.count, 8)
	b = putNum(b, p.odd, 8)
	b = putNumber(b, numberOf(p.a[:]))
	b = putSize(b, numberOf(p.aa[:]).size)
	b = putNumber(b, numberOf(p.b[:]))
	b = putSize(b, numberOf(p.bb[:]).size)
	return putNumber(b, numberOf(p.ab[:]))
}

// PairsOf reads a state's bytes.
func PairsOf(b []byte) (*Pairs, api.Errno) {
	f, p := form{rest: b}, &Pairs{}
	p.count = f.num(8)
	p.odd = f.num(8)
	first := f.number()
	firsts := f.size()
	second := f.number()
	seconds := f.size()
	both := f.number()
	if !f.whole() || !countsFit(p.count, p.odd) {
		return nil, api.ErrExactForm
	}
	n := count(p.count - p.odd)
	if !valuesFit(n, first, firsts) || !valuesFit(n, second, seconds) || !productsFit(n, both) {
		return nil, api.ErrExactForm
	}
	x, y, w := spread(n, both, first, second), spread(n, firsts, first, first), spread(n, seconds, second, second)
	if !within(x.times(x).size, y.times(w).size) {
		return nil, api.ErrExactForm
	}
	lay(p.a[:], first)
	lay(p.aa[:], firsts)
	lay(p.b[:], second)
	lay(p.bb[:], seconds)
	lay(p.ab[:], both)
	return p, api.OK
}
