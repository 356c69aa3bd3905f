package exact

import (
	"math/bits"

	"fathom/api"
	"fathom/float"
)

// A sum is words of 64 bits, the lowest first; one below 0 is its two's complement. Sums of values count in units of 2^-1074, those of products of two values in units of 2^-2148. Each has room for what MaxCount (2^53) parts can come to, and for a sign: so nothing wraps.
const (
	timeWords   = 2  // times: below 2^(53 + 63 + 1)
	timesWords  = 3  // products of two times: below 2^(53 + 126 + 1)
	valueWords  = 34 // values: below 2^(53 + 1024 + 1074); their integrals, taken twice, below 2^(1 + 64 + 1024 + 1074)
	weighWords  = 35 // products of a time and a value: below 2^(53 + 63 + 1024 + 1074)
	squareWords = 67 // products of two values: below 2^(53 + 2048 + 2148)
)

const (
	leastPower = -1074          // values are whole multiples of this power of 2
	leastTwice = 2 * leastPower // products of two are of this one
)

const wordBits = 64

// part is a whole number that a sum is made of: m * 2^at, with a sign.
type part struct {
	neg bool
	m   uint64
	at  int
}

// valueOf tells a float in units; false: it is not finite.
func valueOf(v uint64) (part, bool) {
	neg, m, e, ok := float.Split(v)
	return part{neg: neg, m: m, at: e - leastPower}, ok
}

func isFinite(v uint64) bool {
	_, ok := valueOf(v)
	return ok
}

// timeOf tells a time; the least one has no int64 of the other sign.
func timeOf(t int64) part {
	if t < 0 {
		return part{neg: true, m: -uint64(t)}
	}
	return part{m: uint64(t)}
}

// once is what a part is multiplied with that is gathered as it is.
func once() part { return part{m: 1} }

// gather adds x * y to a sum. To take away is to add the words turned, and 1.
func gather(sum []uint64, x, y part) {
	flip, carry := signWords(x.neg != y.neg)
	at := x.at + y.at
	words := laid(x.m, y.m, at%wordBits)
	work := sum[at/wordBits:]
	for i := range len(work) {
		more := flip
		if i < len(words) {
			more ^= words[i]
		} else if carry == flip&1 { // from here on nothing would change
			return
		}
		work[i], carry = bits.Add64(work[i], more, carry)
	}
}

// signWords tells by what words are turned, and what is carried in at the bottom, for a sign.
func signWords(neg bool) (flip, carry uint64) {
	if neg {
		return ^uint64(0), 1
	}
	return 0, 0
}

// laid tells the words of x * y * 2^up, up below 64.
func laid(x, y uint64, up int) [3]uint64 {
	high, low := bits.Mul64(x, y)
	down := wordBits - up
	return [3]uint64{low << up, high<<up | low>>down, high >> down}
}

// addSum adds a sum to another one of as many words, or to itself.
func addSum(sum, more []uint64) {
	carry := uint64(0)
	for i := range len(sum) {
		sum[i], carry = bits.Add64(sum[i], more[i], carry)
	}
}

// numberOf tells a sum as a number.
func numberOf(sum []uint64) number {
	neg := sum[len(sum)-1]>>(wordBits-1) == 1
	flip, carry := signWords(neg)
	limbs := make(api.Nat, 2*len(sum))
	used := 0
	for i := range len(sum) {
		word := uint64(0)
		word, carry = bits.Add64(sum[i]^flip, 0, carry)
		limbs[2*i], limbs[2*i+1] = uint32(word), uint32(word>>32)
		if word != 0 {
			used = 2*i + (bits.Len64(word)+31)/32
		}
	}
	return number{neg: neg, size: limbs[:used]}
}

// lay makes a sum, which is 0, the number; it has room for it.
func lay(sum []uint64, x number) {
	for i := range len(x.size) {
		gather(sum, part{neg: x.neg, m: uint64(x.size[i]), at: 32 * i}, once())
	}
}
