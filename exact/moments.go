package exact

import (
	"fathom/api"
	"fathom/float"
)

// Moments are values' exact sum, and that of their squares.
type Moments struct {
	count, nans, ups, downs uint64 // all values; among them NaNs, +Inf, -Inf
	dark                    bool   // there are values, and all are -0
	sum                     [valueWords]uint64
	squares                 [squareWords]uint64
}

// Add takes a value.
func (m *Moments) Add(v uint64) api.Errno {
	if m.count >= api.MaxCount {
		return api.ErrExactFull
	}
	m.dark = v == api.Neg64 && (m.dark || m.count == 0)
	m.count++
	if x, ok := valueOf(v); ok {
		gather(m.sum[:], x, once())
		gather(m.squares[:], x, x)
		return api.OK
	}
	switch {
	case float.Class(v) != api.ClassInf:
		m.nans++
	case v&api.Neg64 == 0:
		m.ups++
	default:
		m.downs++
	}
	return api.OK
}

// Merge takes another one's values.
func (m *Moments) Merge(o *Moments) api.Errno {
	if o == nil || o.count == 0 {
		return api.OK
	}
	if m.count+o.count > api.MaxCount {
		return api.ErrExactFull
	}
	m.dark = o.dark && (m.dark || m.count == 0)
	m.count += o.count
	m.nans += o.nans
	m.ups += o.ups
	m.downs += o.downs
	addSum(m.sum[:], o.sum[:])
	addSum(m.squares[:], o.squares[:])
	return api.OK
}

// Count tells how many values there were.
func (m *Moments) Count() uint64 { return m.count }

// Nans tells how many of them are NaN.
func (m *Moments) Nans() uint64 { return m.nans }

// Sum tells the sum.
func (m *Moments) Sum() (uint64, bool) { return m.share(1), m.count > 0 }

// Mean tells the mean.
func (m *Moments) Mean() (uint64, bool) { return m.share(m.count), m.count > 0 }

// share tells the sum divided by n; of no values +0.
func (m *Moments) share(n uint64) uint64 {
	switch {
	case m.nans > 0 || m.ups > 0 && m.downs > 0:
		return api.NaN64
	case m.ups > 0:
		return api.Inf64
	case m.downs > 0:
		return api.Inf64 | api.Neg64
	case m.dark:
		return api.Neg64
	case m.count == 0:
		return 0
	}
	return over(numberOf(m.sum[:]), count(n), leastPower)
}

// Var tells the variance.
func (m *Moments) Var() (uint64, bool) {
	if m.count == 0 {
		return 0, false
	}
	return m.variance(m.count), true
}

// Sample tells the variance by n - 1.
func (m *Moments) Sample() (uint64, bool) {
	if m.count < 2 {
		return 0, false
	}
	return m.variance(m.count - 1), true
}

// Dev tells the variance's square root.
func (m *Moments) Dev() (uint64, bool) {
	switch {
	case m.count == 0:
		return 0, false
	case !m.isFinite():
		return api.NaN64, true
	}
	n := count(m.count)
	return wide().nearest(false, root(m.spread().size, n.times(n).size, leastTwice)), true
}

// variance tells n n times the variance, divided by n and by.
func (m *Moments) variance(by uint64) uint64 {
	if !m.isFinite() {
		return api.NaN64
	}
	return over(m.spread(), count(m.count).times(count(by)), leastTwice)
}

func (m *Moments) isFinite() bool { return m.nans == 0 && m.ups == 0 && m.downs == 0 }

func (m *Moments) spread() number {
	sum := numberOf(m.sum[:])
	return spread(count(m.count), numberOf(m.squares[:]), sum, sum)
}

// Bytes tells the state's form.
func (m *Moments) Bytes() []byte {
	b := putNum(nil, m.count, 8)
	b = putNum(b, m.nans, 8)
	b = putNum(b, m.ups, 8)
	b = putNum(b, m.downs, 8)
	b = putFlag(b, m.dark)
	b = putNumber(b, numberOf(m.sum[:]))
	return putSize(b, numberOf(m.squares[:]).size)
}

// MomentsOf reads a state's bytes.
func MomentsOf(b []byte) (*Moments, api.Errno) {
	f, m := form{rest: b}, &Moments{}
	m.count = f.num(8)
	m.nans = f.num(8)
	m.ups = f.num(8)
	m.downs = f.num(8)
	m.dark = f.flag()
	sum := f.number()
	squares := f.size()
	if !f.whole() || !m.fits(sum, squares) {
		return nil, api.ErrExactForm
	}
	lay(m.sum[:], sum)
	lay(m.squares[:], squares)
	return m, api.OK
}

// fits tells whether the sums may be those of a state of such counts.
func (m *Moments) fits(sum, squares number) bool {
	switch {
	case !countsFit(m.count, m.nans, m.ups, m.downs):
		return false
	case m.dark && (m.count == 0 || !m.isFinite() || !sum.isZero() || !squares.isZero()):
		return false
	}
	return valuesFit(count(m.count-m.nans-m.ups-m.downs), sum, squares)
}
