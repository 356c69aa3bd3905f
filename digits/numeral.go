package digits

import (
	"fathom/api"
	"fathom/limb"
)

const (
	// enough: what lies midway between two floats has fewer digits, in either base. Of digits behind so many it counts only whether one is not 0.
	enough = 800
	// farPower: whatever digits a text has room for, a power so great makes their number infinite, or nought. A greater one is cut: it could wrap.
	farPower = 1 << 30
	// farPoint: a decimal with its point so far off is infinite, or nought.
	farPoint = 400
)

// numeral is 0.d1 d2 .. times base^point, times 10^power, or, in base 16, times 2^power; d1 is not 0, and nought has no digits.
type numeral struct {
	base     int
	digits   []byte // their values
	more     bool   // a digit behind them is not 0
	point    int
	power    int // without its sign
	powerNeg bool
}

// lay takes a digit, ahead of the point or behind it. Noughts that lead count but behind the point.
func (n *numeral) lay(d byte, behind bool) {
	leads := d == 0 && len(n.digits) == 0
	switch {
	case leads && behind:
		n.point--
	case !leads && !behind:
		n.point++
	}
	switch {
	case leads:
	case len(n.digits) < enough:
		n.digits = append(n.digits, d)
	case d != 0:
		n.more = true
	}
}

// layPower takes a digit of the power.
func (n *numeral) layPower(d byte) {
	if n.power < farPower {
		n.power = 10*n.power + int(d)
	}
}

// ratio tells p, q, e: the numeral is p / q * 2^e; where digits were left out, or a power or the point is cut, its nearest floats are.
func (n *numeral) ratio() (p, q api.Nat, e int) {
	digits, shift := n.digits, n.power
	if n.more {
		digits = append(digits, 1)
	}
	if n.powerNeg {
		shift = -shift
	}
	switch {
	case len(digits) == 0:
		return nil, limb.From(1), 0
	case n.base == 16:
		whole, low := wholeOf16(digits)
		return whole, limb.From(1), 4*n.point + shift - low
	}
	point := min(max(n.point+shift, -farPoint), farPoint)
	return scaled(wholeOf10(digits), point-len(digits))
}

// scaled tells a whole number times 10^tens: 10 is 5 times 2.
func scaled(whole api.Nat, tens int) (p, q api.Nat, e int) {
	if tens < 0 {
		return whole, power(5, -tens), tens
	}
	p, _ = limb.Mul(whole, power(5, tens))
	return p, limb.From(1), tens
}

// wholeOf10 tells digits as a whole number, the first one not 0.
func wholeOf10(digits []byte) api.Nat {
	text := make([]byte, len(digits))
	for i := range len(digits) {
		text[i] = '0' + digits[i]
	}
	whole, _ := limb.OfText(string(text))
	return whole
}

// wholeOf16 tells digits as a whole number of whole bytes, the first one not 0, and how many bits it has behind the point that stands ahead of them.
func wholeOf16(digits []byte) (whole api.Nat, low int) {
	packed := make([]byte, (len(digits)+1)/2)
	for i := range len(digits) {
		packed[i/2] |= digits[i] << (4 * (1 - i%2))
	}
	whole, _ = limb.OfBytes(packed)
	return whole, 8 * len(packed)
}
