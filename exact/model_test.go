package exact_test

import (
	"math"
	"math/big"
	"math/rand"
	"slices"
	"testing"

	"fathom/api"
)

// The model: exact numbers of math/big, and math/big's own roundings.

const maxBits = 32 * api.MaxLimbs

// f tells a number's pattern.
func f(x float64) uint64 { return math.Float64bits(x) }

func num(n int64) *big.Int { return big.NewInt(n) }

// two tells 2^n.
func two(n int) *big.Int { return new(big.Int).Lsh(num(1), uint(n)) }

func add(a, b *big.Int) *big.Int { return new(big.Int).Add(a, b) }
func sub(a, b *big.Int) *big.Int { return new(big.Int).Sub(a, b) }
func mul(l ...*big.Int) *big.Int {
	p := num(1)
	for _, a := range l {
		p.Mul(p, a)
	}
	return p
}

func natOf(x *big.Int) api.Nat {
	b := x.Bytes()
	slices.Reverse(b)
	a := make(api.Nat, (len(b)+3)/4)
	for i, c := range b {
		a[i/4] |= uint32(c) << (i % 4 * 8)
	}
	return a
}

// ratio tells p / q * 2^e.
func ratio(p, q *big.Int, e int) *big.Rat {
	if e >= 0 {
		return new(big.Rat).SetFrac(mul(p, two(e)), q)
	}
	return new(big.Rat).SetFrac(p, mul(q, two(-e)))
}

// nearest tells the nearest binary64; what is not nought, but rounds to it, keeps its sign.
func nearest(x *big.Rat) uint64 {
	b, _ := x.Float64()
	return f(b)
}

func nearest32(x *big.Rat) uint32 {
	b, _ := x.Float32()
	return math.Float32bits(b)
}

func isNaN(v uint64) bool    { return v&^api.Neg64 > api.Inf64 }
func isFinite(v uint64) bool { return v&^api.Neg64 < api.Inf64 }

// units tells a finite float * 2^1074.
func units(v uint64) *big.Int {
	field, m := int(v>>52&2047), int64(v&(1<<52-1))
	if field == 0 {
		field = 1
	} else {
		m += 1 << 52
	}
	x := new(big.Int).Lsh(num(m), uint(field-1))
	if v&api.Neg64 != 0 {
		x.Neg(x)
	}
	return x
}

// greatest tells the greatest finite float * 2^1074.
func greatest() *big.Int { return units(api.Inf64 - 1) }

// isRoot tells whether b is the float nearest to the root of x, which is not below 0: whether x lies between the squares of the midways to b's neighbours.
func isRoot(b uint64, x *big.Rat) bool {
	if b > api.Inf64 {
		return false
	}
	if b > 0 {
		low := midway(b - 1)
		if c := x.Cmp(low.Mul(low, low)); c < 0 || c == 0 && b%2 == 1 {
			return false
		}
	}
	if b == api.Inf64 {
		return true
	}
	high := midway(b)
	c := x.Cmp(high.Mul(high, high))
	return c < 0 || c == 0 && b%2 == 0
}

// midway tells what lies midway between a finite float, not below nought, and the next pattern's; beyond the greatest one, half a step more.
func midway(b uint64) *big.Rat {
	up := units(b + 1)
	if b+1 == api.Inf64 {
		up = two(1024 + 1074)
	}
	return ratio(add(units(b), up), num(1), -1075)
}

// edges are values of all classes, at the ends of each, with both signs.
func edges() []uint64 {
	l := []uint64{
		0, 1, 2, 3, 1<<52 - 1, 1 << 52, 1<<52 + 1, f(0.1), f(0.5), f(1) - 1, f(1), f(1) + 1, f(1.5), f(2), f(3), f(10), f(0x1p52), f(0x1p53), f(0x1p53) + 1, f(0x1p60), f(0x1p-60), f(0x1p-537), f(0x1p-538), f(0x1p511), f(0x1p512), f(0x1p1023), api.Inf64 - 2, api.Inf64 - 1,
		api.Inf64, api.Inf64 + 1, api.NaN64, api.NaN64 + 7, 1<<63 - 1,
	}
	for _, v := range l {
		l = append(l, v|api.Neg64)
	}
	return l
}

// anyValue tells an edge, a number near 1, or any pattern that is finite.
func anyValue(r *rand.Rand) uint64 {
	switch r.Intn(4) {
	case 0:
		l := edges()
		return l[r.Intn(len(l))]
	case 1:
		return f(float64(r.Intn(41)-20) / 4)
	case 2:
		return f(r.NormFloat64())
	}
	v := r.Uint64()
	for !isFinite(v) {
		v = r.Uint64()
	}
	return v
}

// someValues tells a list; most are finite in all, some of one number alone.
func someValues(r *rand.Rand, n int) []uint64 {
	l := make([]uint64, n)
	finite, one := r.Intn(4) > 0, r.Intn(8) == 0
	for i := range l {
		l[i] = anyValue(r)
		for finite && !isFinite(l[i]) {
			l[i] = anyValue(r)
		}
		if one {
			l[i] = l[0]
		}
	}
	return l
}

// anyTime tells a time at the ends, near 0, or any.
func anyTime(r *rand.Rand) int64 {
	switch r.Intn(4) {
	case 0:
		l := []int64{math.MinInt64, math.MinInt64 + 1, -1 << 53, -1, 0, 1, 1 << 53, math.MaxInt64 - 1, math.MaxInt64}
		return l[r.Intn(len(l))]
	case 1:
		return int64(r.Uint64())
	}
	return int64(r.Intn(100) - 50)
}

// risingTimes tells unlike times in order.
func risingTimes(r *rand.Rand, n int) []int64 {
	l := []int64{}
	for len(l) < n {
		if t := anyTime(r); !slices.Contains(l, t) {
			l = append(l, t)
		}
	}
	slices.Sort(l)
	return l
}

// Forms, by the chapter's words.

func numForm(n uint64, bytes int) []byte {
	b := make([]byte, bytes)
	for i := range b {
		b[bytes-1-i] = byte(n)
		n >>= 8
	}
	return b
}

func sizeForm(x *big.Int) []byte {
	b := x.Bytes() // without its sign
	return append(numForm(uint64(len(b)), 2), b...)
}

func numberForm(x *big.Int) []byte {
	neg := byte(0)
	if x.Sign() < 0 {
		neg = 1
	}
	return append([]byte{neg}, sizeForm(x)...)
}

// told is what a call without an error tells, for comparing.
type told struct {
	b  uint64
	ok bool
}

func tell(b uint64, ok bool) told { return told{b, ok} }

// same fails unless two are alike.
func same[T comparable](t *testing.T, what string, got, want T) {
	t.Helper()
	if got != want {
		t.Fatalf("%s: %v; want %v", what, got, want)
	}
}
