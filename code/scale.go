package code

import (
	"fathom/api"
	"fathom/float"
)

// How far p goes, and how far k from 0: so both 10^p and k are floats, and a value is at most one k at a p.
const (
	mostPoint64 = 22
	mostPoint32 = 10
	mostWhole64 = 1e15 - 1
	mostWhole32 = 1e6 - 1
)

// scale is a p at which values are held against whole numbers.
type scale[T word] struct {
	p     int
	power T // 10^p, as a float
}

func mostPoint[T word]() int {
	if wide[T]() {
		return mostPoint64
	}
	return mostPoint32
}

func mostWhole[T word]() int64 {
	if wide[T]() {
		return mostWhole64
	}
	return mostWhole32
}

// scaleAt tells the scale of a p. Powers up to the greatest p are floats, and so each product is exact.
func scaleAt[T word](p int) scale[T] {
	power, ten := floatOf[T](1), floatOf[T](10)
	for range p {
		power = float.Mul(power, ten)
	}
	return scale[T]{p: p, power: power}
}

// bestScale tells the scale at which the fewest values are nothing, of several the one of the least p.
func bestScale[T word](l []T) scale[T] {
	best := scaleAt[T](0)
	fewest := best.nothings(l)
	for p := 1; p <= mostPoint[T]() && fewest > 0; p++ {
		s := scaleAt[T](p)
		if n := s.nothings(l); n < fewest {
			best, fewest = s, n
		}
	}
	return best
}

// nothings tells how many values are nothing.
func (s scale[T]) nothings(l []T) int {
	n := 0
	for _, v := range l {
		if _, is := s.wholeOf(v); !is {
			n++
		}
	}
	return n
}

// valueOf tells the value that a whole number is.
func (s scale[T]) valueOf(k int64) T { return float.Div(floatOf[T](k), s.power) }

// wholeOf tells which whole number a value is, if it is one. The value is off k / 10^p by at most half a step, and so the product, rounded, is off k by less than a half.
func (s scale[T]) wholeOf(v T) (k int64, is bool) {
	k, is = nearestWhole(float.Mul(v, s.power))
	most := mostWhole[T]()
	if !is || k < -most || k > most || s.valueOf(k) != v {
		return 0, false
	}
	return k, true
}

// floatOf tells the float of a whole number.
func floatOf[T word](k int64) T {
	if wide[T]() {
		return T(float.FromInt(k))
	}
	return T(float.FromInt32(k))
}

// nearestWhole tells the whole number that is nearest to a float, if that is a number of 64 bits.
func nearestWhole[T word](v T) (int64, bool) {
	b := uint64(v)
	if !wide[T]() {
		b = float.Widen(uint32(v))
	}
	k, e := float.ToInt(b, api.RoundEven)
	return k, e == api.OK
}
