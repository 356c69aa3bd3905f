package digits

import (
	"strconv"
	"strings"

	"fathom/api"
	"fathom/float"
	"fathom/limb"
)

// decimal is 0.d1 d2 .. dn times 10^point, d1 not 0; behind dn there are noughts. Nought has no digits, and its point behind the first one that would be told.
type decimal struct {
	digits string
	point  int
}

func nought() decimal { return decimal{point: 1} }

// decimalOf tells a whole number times 10^tens, without noughts at its end.
func decimalOf(whole api.Nat, tens int) decimal {
	if len(whole) == 0 {
		return nought()
	}
	text := limb.Text(whole)
	return decimal{digits: strings.TrimRight(text, "0"), point: len(text) + tens}
}

// allDigits tells a finite binary64's number.
func allDigits(b uint64) decimal {
	_, m, e, _ := float.Split(b)
	two, tens := powerOfTwo(e)
	return decimalOf(times(m, two), tens)
}

// powerOfTwo tells 2^e as a whole number times 10^tens.
func powerOfTwo(e int) (whole api.Nat, tens int) {
	if e < 0 {
		return power(5, -e), e
	}
	return power(2, e), 0
}

// power and times: what is reckoned here stays far below limb's bounds, so there are no errors to look at.
func power(base uint32, n int) api.Nat {
	p, _ := limb.Power(base, n)
	return p
}

func times(m uint64, a api.Nat) api.Nat {
	p, _ := limb.Mul(limb.From(m), a)
	return p
}

// at tells the digit of place i, counted from the first one: ahead of them and behind them stand noughts.
func (d decimal) at(i int) byte {
	if i < 0 || i >= len(d.digits) {
		return '0'
	}
	return d.digits[i]
}

// behind tells how many digits stand behind the point.
func (d decimal) behind() int { return max(len(d.digits)-d.point, 0) }

// rounded tells it with so many digits at most: to the nearest, of two the one whose last digit is even. The last digit, dn, must not be 0.
func (d decimal) rounded(keep int) decimal {
	switch {
	case keep >= len(d.digits):
		return d
	case keep >= 0 && d.roundsUp(keep):
		return d.up(keep)
	case keep > 0:
		return decimal{digits: d.digits[:keep], point: d.point}
	}
	return nought()
}

// roundsUp tells whether what stands behind the first digits is more than half of the last one's step, or just half, and that digit is odd.
func (d decimal) roundsUp(keep int) bool {
	next := d.at(keep)
	if next == '5' && keep+1 == len(d.digits) {
		return d.at(keep-1)%2 == 1 // '0' is even, as 0 is
	}
	return next >= '5'
}

// up tells the first digits, the last one raised by one; if all are nines, a power of ten.
func (d decimal) up(keep int) decimal {
	kept := strings.TrimRight(d.digits[:keep], "9")
	if kept == "" {
		return decimal{digits: "1", point: d.point + 1}
	}
	last := len(kept) - 1
	return decimal{digits: kept[:last] + string(rune(kept[last])+1), point: d.point}
}

// plain writes it without an exponent, with so many digits behind the point, and at least one ahead.
func (d decimal) plain(behind int) string {
	first := min(d.point-1, 0)
	text := d.lay(first, d.point-first)
	if behind == 0 {
		return text
	}
	return text + "." + d.lay(d.point, behind)
}

// withExponent writes so many digits, and an exponent.
func (d decimal) withExponent(n int) string {
	text := d.lay(0, 1)
	if n > 1 {
		text += "." + d.lay(1, n-1)
	}
	return text + "e" + strconv.Itoa(d.point-1)
}

// lay tells n digits, from place i on.
func (d decimal) lay(i, n int) string {
	text := make([]byte, n)
	for j := range n {
		text[j] = d.at(i + j)
	}
	return string(text)
}
