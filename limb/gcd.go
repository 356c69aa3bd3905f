package limb

import "fathom/api"

// leadBits is how many bits of the numbers are looked at by themselves: twice as many as factors may have, whose products with a limb must stay within an int64.
const leadBits = 62

// row makes a number of x and y: u x + v y. One of both factors is not above 0, the other not below.
type row struct{ u, v int64 }

// Gcd tells the greatest number that divides both.
func Gcd(a, b api.Nat) (api.Nat, api.Errno) {
	if e := checkBoth(a, b); e != api.OK {
		return nil, e
	}
	x, y := []uint32(a), []uint32(b)
	if compare(x, y) < 0 {
		x, y = y, x
	}
	for len(y) > 0 {
		x, y = goDown(x, y)
	}
	return tell(x)
}

// goDown tells two later neighbours of the remainders that x and y leave, x not below y. Most steps are taken many at once, by Lehmer's way: the leading bits say how; a division of the whole numbers is left where they say nothing.
func goDown(x, y []uint32) (later, last []uint32) {
	behind := max(0, Len(x)-leadBits)
	first, second := rowsOf(leading(x, behind), leading(y, behind))
	if first.v == 0 {
		_, rest := divide(x, y)
		return y, rest
	}
	return mix(x, y, first), mix(x, y, second)
}

// leading tells what is left without the lowest bits, which fits into leadBits.
func leading(a []uint32, behind int) int64 {
	if behind >= Len(a) {
		return 0
	}
	n, _ := Small(shiftDown(a, behind))
	return int64(n)
}

// rowsOf tells how two neighbouring remainders are made of x and y, as far as their leading bits say it for sure, whatever is behind (Collins' condition: it holds of each pair of rows that is told). It keeps a row's factors below 2^31: v is below the remainder ahead of it, and both together are not above x's leading bits.
func rowsOf(x, y int64) (first, second row) {
	next := row{0, 1}
	second = row{1, 0}
	for y >= size(next.v) && x-y >= size(second.v)+size(next.v) {
		q := x / y
		x, y = y, x%y
		first, second, next = second, next, row{second.u - q*next.u, second.v - q*next.v}
	}
	return first, second
}

func size(n int64) int64 { return max(n, -n) }

// mix tells the number that a row makes of x and y; it is not below 0, nor above x.
func mix(x, y []uint32, r row) []uint32 {
	work := make([]uint32, len(x))
	carry := int64(0)
	for i := range len(x) {
		carry += r.u*int64(x[i]) + r.v*int64(limbAt(y, i))
		work[i] = uint32(carry)
		carry >>= limbBits
	}
	return trim(work)
}
