package float_test

import (
	"math"
	"math/big"
	"math/rand"

	"fathom/api"
	"fathom/float"
)

// The model: patterns taken apart by the chapter's words, exact numbers of math/big, and one rounding.

// shape is a width: how many bits its exponent field and its fraction have.
type shape struct{ field, fraction int }

var (
	wide   = shape{11, 52}
	narrow = shape{8, 23}
)

func shapeOf[T float.Word]() shape {
	if uint64(^T(0)) == math.MaxUint64 {
		return wide
	}
	return narrow
}

func (s shape) sign() uint64 { return 1 << (s.field + s.fraction) }
func (s shape) inf() uint64  { return 1<<(s.field+s.fraction) - 1<<s.fraction }
func (s shape) nan() uint64  { return s.inf() | 1<<(s.fraction-1) }

// least is the power of 2 of the least positive number.
func (s shape) least() int { return 2 - 1<<(s.field-1) - s.fraction }

func (s shape) neg(b uint64) bool   { return b&s.sign() != 0 }
func (s shape) isNaN(b uint64) bool { return b&^s.sign() > s.inf() }
func (s shape) isInf(b uint64) bool { return b&^s.sign() == s.inf() }
func (s shape) isNought(b uint64) bool {
	return b&^s.sign() == 0
}

func (s shape) signed(neg bool, b uint64) uint64 {
	if neg {
		return b | s.sign()
	}
	return b
}

// exact is m * 2^e, or, with more, a number between that and (m + 1) * 2^e.
type exact struct {
	m    *big.Int
	e    int
	more bool
}

// number tells a finite pattern's number.
func (s shape) number(b uint64) exact {
	field, fraction := int(b&s.inf()>>s.fraction), int64(b&(1<<s.fraction-1))
	if field == 0 {
		field = 1
	} else {
		fraction += 1 << s.fraction
	}
	m := big.NewInt(fraction)
	if s.neg(b) {
		m.Neg(m)
	}
	return exact{m: m, e: field - 1 + s.least()}
}

// nearest tells the nearest float's pattern; of nought that of +0.
func (s shape) nearest(x exact) uint64 {
	m := new(big.Int).Abs(x.m)
	if m.Sign() == 0 && !x.more {
		return 0
	}
	e := max(x.e+m.BitLen()-1-s.fraction, s.least())
	if e > 1<<s.field {
		return s.signed(x.m.Sign() < 0, s.inf())
	}
	n := uint64(0)
	if k := e - x.e; k <= 0 {
		n = m.Lsh(m, uint(-k)).Uint64()
	} else {
		q := new(big.Int).Rsh(m, uint(k))
		rest := m.Sub(m, new(big.Int).Lsh(q, uint(k)))
		c := rest.Cmp(new(big.Int).Lsh(big.NewInt(1), uint(k-1)))
		n = q.Uint64()
		if c > 0 || c == 0 && (x.more || n%2 == 1) {
			n++
		}
	}
	b := min(n+uint64(e-s.least())<<s.fraction, s.inf()) // a carry runs from the fraction into the field
	return s.signed(x.m.Sign() < 0, b)
}

func plus(x, y exact) exact {
	e := min(x.e, y.e)
	m := new(big.Int).Lsh(x.m, uint(x.e-e))
	return exact{m: m.Add(m, new(big.Int).Lsh(y.m, uint(y.e-e))), e: e}
}

func times(x, y exact) exact { return exact{m: new(big.Int).Mul(x.m, y.m), e: x.e + y.e} }

// over tells a quotient, with bits enough that no float has more.
func over(x, y exact) exact {
	const room = 200
	q, r := new(big.Int).QuoRem(new(big.Int).Lsh(x.m, room), y.m, new(big.Int))
	return exact{m: q, e: x.e - room - y.e, more: r.Sign() != 0}
}

// rootOf tells a root, likewise.
func rootOf(x exact) exact {
	room := 200 + x.e&1
	m := new(big.Int).Lsh(x.m, uint(room))
	q := new(big.Int).Sqrt(m)
	return exact{m: q, e: (x.e - room) / 2, more: m.Cmp(new(big.Int).Mul(q, q)) != 0}
}

// add is P3.9's sum.
func (s shape) add(a, b uint64) uint64 {
	switch {
	case s.isNaN(a) || s.isNaN(b) || s.isInf(a) && s.isInf(b) && a != b:
		return s.nan()
	case s.isInf(a):
		return a
	case s.isInf(b):
		return b
	case s.isNought(a) && s.isNought(b) && s.neg(a) && s.neg(b):
		return s.sign()
	}
	return s.nearest(plus(s.number(a), s.number(b)))
}

func (s shape) sub(a, b uint64) uint64 { return s.add(a, b^s.sign()) }

func (s shape) mul(a, b uint64) uint64 {
	neg := s.neg(a) != s.neg(b)
	switch {
	case s.isNaN(a) || s.isNaN(b) || s.isInf(a) && s.isNought(b) || s.isNought(a) && s.isInf(b):
		return s.nan()
	case s.isInf(a) || s.isInf(b):
		return s.signed(neg, s.inf())
	case s.isNought(a) || s.isNought(b):
		return s.signed(neg, 0)
	}
	return s.nearest(times(s.number(a), s.number(b)))
}

func (s shape) div(a, b uint64) uint64 {
	neg := s.neg(a) != s.neg(b)
	switch {
	case s.isNaN(a) || s.isNaN(b) || s.isInf(a) && s.isInf(b) || s.isNought(a) && s.isNought(b):
		return s.nan()
	case s.isInf(a) || s.isNought(b):
		return s.signed(neg, s.inf())
	case s.isInf(b) || s.isNought(a):
		return s.signed(neg, 0)
	}
	return s.nearest(over(s.number(a), s.number(b)))
}

func (s shape) root(a uint64) uint64 {
	switch {
	case s.isNaN(a):
		return s.nan()
	case s.isNought(a) || a == s.inf():
		return a
	case s.neg(a):
		return s.nan()
	}
	return s.nearest(rootOf(s.number(a)))
}

func (s shape) fma(a, b, c uint64) uint64 {
	neg := s.neg(a) != s.neg(b)
	switch {
	case s.isNaN(a) || s.isNaN(b) || s.isNaN(c) || s.isInf(a) && s.isNought(b) || s.isNought(a) && s.isInf(b):
		return s.nan()
	case s.isInf(a) || s.isInf(b):
		return s.add(s.signed(neg, s.inf()), c)
	case s.isInf(c):
		return c
	case s.isNought(a) || s.isNought(b):
		return s.add(s.signed(neg, 0), c)
	}
	return s.nearest(plus(times(s.number(a), s.number(b)), s.number(c)))
}

// edges are patterns of all classes, at the ends of each, and next to halves and steps, with both signs.
func (s shape) edges() []uint64 {
	one := uint64(1)<<(s.field-1+s.fraction) - 1<<s.fraction
	step := uint64(1) << s.fraction
	whole := one + uint64(s.fraction)<<s.fraction // from here to twice that whole numbers lie 1 apart
	l := []uint64{
		0, 1, 2, 3, step/2 - 1, step / 2, step/2 + 1, step - 2, step - 1, step, step + 1, 2*step - 1, 2 * step, 3 * step,
		one - 1, one, one + 1, one + 2, one + step/2, one + step/2 + 1, one + step - 1, one + step, one + step + step/2, one - step, one - step - 1, one - step + 1, one - 2*step, one - 2*step + 1,
		one - uint64(s.fraction)*step, one - uint64(s.fraction+1)*step, one - uint64(s.fraction+1)*step + 1, one - uint64(s.fraction+2)*step,
		whole - 1, whole, whole + 1, whole - step, whole - step + 1, whole + step, whole + step + 1, whole + step - 1,
		one/2 - 1, one / 2, one/2 + 1, (one + s.inf()) / 2, s.inf() - 2*step, s.inf() - step - 1, s.inf() - step, s.inf() - 2, s.inf() - 1,
		s.inf(), s.inf() + 1, s.nan() - 1, s.nan(), s.nan() + 1, s.sign() - 1,
	}
	for _, b := range l {
		l = append(l, b|s.sign())
	}
	return l
}

// some tells a pattern by chance: of any field, or of one near another one's, with few bits or many.
func (s shape) some(r *rand.Rand, near uint64) uint64 {
	b := r.Uint64() & (2*s.sign() - 1)
	if r.Intn(2) == 0 {
		field := near&s.inf() + uint64(r.Intn(2*s.fraction+8))<<s.fraction - uint64(s.fraction+4)<<s.fraction
		b = b&^s.inf() | field&s.inf()
	}
	cut := uint64(1)<<r.Intn(s.fraction+1) - 1
	switch r.Intn(4) {
	case 0:
		b &^= cut
	case 1:
		b |= cut
	case 2:
		b = b&^cut + cut/2 + 1
	}
	return b
}

// f tells a number's pattern.
func f(x float64) uint64 { return math.Float64bits(x) }

func modes() []int {
	return []int{api.RoundEven, api.RoundAway, api.RoundZero, api.RoundFloor, api.RoundCeil}
}

func noModes() []int { return []int{math.MinInt, -5, -1, 5, 6, 1 << 32, math.MaxInt} }
