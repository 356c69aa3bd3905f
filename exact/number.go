package exact

import (
	"fathom/api"
	"fathom/limb"
)

// What is reckoned here stays far below limb's bounds (divideLong's numbers stay within them): so there are no errors to look at.

func plus(a, b api.Nat) api.Nat {
	c, _ := limb.Add(a, b)
	return c
}

// less tells a less b, which is not above it.
func less(a, b api.Nat) api.Nat {
	c, _ := limb.Sub(a, b)
	return c
}

func times(a, b api.Nat) api.Nat {
	c, _ := limb.Mul(a, b)
	return c
}

// within tells whether a is not above b.
func within(a, b api.Nat) bool { return limb.Cmp(a, b) <= 0 }

// number is a whole number; 0 has no sign.
type number struct {
	neg  bool
	size api.Nat
}

// count tells how many as a number.
func count(n uint64) number { return number{size: limb.From(n)} }

func (a number) isZero() bool { return len(a.size) == 0 }

func (a number) times(b number) number {
	size := times(a.size, b.size)
	return number{neg: a.neg != b.neg && len(size) > 0, size: size}
}

func (a number) plus(b number) number {
	if a.neg == b.neg {
		return number{neg: a.neg, size: plus(a.size, b.size)}
	}
	switch limb.Cmp(a.size, b.size) {
	case 1:
		return number{neg: a.neg, size: less(a.size, b.size)}
	case -1:
		return number{neg: b.neg, size: less(b.size, a.size)}
	}
	return number{}
}

func (a number) less(b number) number {
	return a.plus(number{neg: !b.neg && !b.isZero(), size: b.size})
}

// spread tells n sum(a b) - sum(a) sum(b): n n times a covariance; of ab sum(a a), and b sum(a), a variance.
func spread(n, ab, a, b number) number { return n.times(ab).less(a.times(b)) }

// over tells the nearest float of p / q * 2^e, q above 0.
func over(p, q number, e int) uint64 {
	return wide().nearest(p.neg, quotient(p.size, q.size, e))
}
