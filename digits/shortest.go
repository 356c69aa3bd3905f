package digits

import (
	"fathom/api"
	"fathom/limb"
)

// Decimals are written plainly if their points are within these.
const (
	leastPlain = -5
	mostPlain  = 21
)

// shortest tells a finite number's shortest decimal.
func (l layout) shortest(size uint64) string {
	d := nought()
	if size != 0 {
		d = l.shortestDecimal(size)
	}
	if d.point < leastPlain || d.point > mostPlain {
		return d.withExponent(len(d.digits))
	}
	return d.plain(d.behind())
}

// reach is what is read as one float: all between low and high, and, if closed, these two as well.
type reach struct {
	low, number, high api.Nat
	closed            bool
}

// shortestDecimal counts in quarters of a step: then what lies midway to both neighbours is whole, too.
func (l layout) shortestDecimal(size uint64) decimal {
	m, e, halved := l.split(size)
	down := uint64(2)
	if halved {
		down = 1
	}
	quarter, tens := powerOfTwo(e - 2)
	r := reach{
		low:    times(4*m-down, quarter),
		number: times(4*m, quarter),
		high:   times(4*m+2, quarter),
		closed: m%2 == 0, // what lies midway is read as the even one
	}
	return decimalOf(r.shortest(), tens)
}

// shortest tells what has the fewest digits, the noughts at the end not counted: the greater the unit whose multiple it is, the fewer they are. (A unit above the number would tell but a power of ten above it: where that is in reach, so is a multiple of the next lesser unit that is as near or nearer.)
func (r reach) shortest() api.Nat {
	size := len(limb.Text(r.number))
	unit := power(10, size-1)
	for range size {
		if x, ok := r.multiple(unit); ok {
			return x
		}
		unit, _, _ = limb.DivMod(unit, limb.From(10))
	}
	return r.number
}

// multiple tells the multiple of unit within reach that is nearest to the number, of two that are as near the even one; false: there is none.
func (r reach) multiple(unit api.Nat) (api.Nat, bool) {
	count, over, _ := limb.DivMod(r.number, unit)
	lack, _ := limb.Sub(unit, over)
	down, _ := limb.Sub(r.number, over)
	up, _ := limb.Add(r.number, lack)
	hasDown, hasUp := r.inOrder(r.low, down), r.inOrder(up, r.high)
	order := limb.Cmp(over, lack)
	upIsNearer := order > 0 || order == 0 && limb.Bit(count, 0)
	switch {
	case hasUp && (upIsNearer || !hasDown):
		return up, true
	case hasDown:
		return down, true
	}
	return nil, false
}

// inOrder tells whether a is below b, or may be b and is.
func (r reach) inOrder(a, b api.Nat) bool {
	order := limb.Cmp(a, b)
	return order < 0 || order == 0 && r.closed
}
