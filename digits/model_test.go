package digits_test

import (
	"math"
	"math/big"
	"math/rand"
	"strconv"
	"strings"
	"testing"

	"fathom/api"
)

// The model: exact numbers of math/big, and math/big's own roundings to floats.

// width is what the model knows of a width: its bits, and the nearest float of a number.
type width struct {
	fraction, least, payload int
	sign, inf, nan           uint64
	nearest                  func(x *big.Rat) uint64
}

func wide() width {
	return width{fraction: 52, least: -1074, payload: 13, sign: api.Neg64, inf: api.Inf64, nan: api.NaN64, nearest: func(x *big.Rat) uint64 {
		y, _ := x.Float64()
		return math.Float64bits(y)
	}}
}

func narrow() width {
	return width{fraction: 23, least: -149, payload: 6, sign: api.Neg32, inf: api.Inf32, nan: api.NaN32, nearest: func(x *big.Rat) uint64 {
		y, _ := x.Float32()
		return uint64(math.Float32bits(y))
	}}
}

// f tells a number's pattern.
func f(x float64) uint64   { return math.Float64bits(x) }
func f32(x float32) uint32 { return math.Float32bits(x) }

func num(n int64) *big.Int { return big.NewInt(n) }

// ratPower tells base^n.
func ratPower(base int64, n int) *big.Rat {
	size := n
	if n < 0 {
		size = -n
	}
	x := new(big.Rat).SetInt(new(big.Int).Exp(num(base), num(int64(size)), nil))
	if n < 0 {
		x.Inv(x)
	}
	return x
}

// number tells a finite number without its sign.
func (w width) number(b uint64) *big.Rat {
	b &^= w.sign
	field, m := int(b>>w.fraction), b&(1<<w.fraction-1)
	if field == 0 {
		field = 1
	} else {
		m |= 1 << w.fraction
	}
	x := new(big.Rat).SetInt(new(big.Int).SetUint64(m))
	return x.Mul(x, ratPower(2, w.least+field-1))
}

// midway tells what lies midway between a finite number and the next pattern's; beyond the greatest one, half a step more.
func (w width) midway(b uint64) *big.Rat {
	x := w.number(b)
	step := new(big.Rat).Sub(x, w.number(b-1))
	if b+1 < w.inf {
		step.Sub(w.number(b+1), x)
	}
	return x.Add(x, step.Mul(step, big.NewRat(1, 2)))
}

// special tells the text of what is no finite number, without its sign; "": it is finite.
func (w width) special(b uint64) string {
	switch b &^= w.sign; {
	case b < w.inf:
		return ""
	case b == w.inf:
		return "inf"
	case b == w.nan:
		return "nan"
	}
	digits := strconv.FormatUint(b&(1<<w.fraction-1), 16)
	return "nan:" + strings.Repeat("0", w.payload-len(digits)) + digits
}

// told tells the text that is wanted: the sign, and what is no finite number, or what finite tells of the others.
func (w width) told(b uint64, finite func(x *big.Rat) string) string {
	text := w.special(b)
	if text == "" {
		text = finite(w.number(b))
	}
	if b&w.sign != 0 {
		return "-" + text
	}
	return text
}

// floor tells a number rounded down to a whole one, and how much is left.
func floor(x *big.Rat) (*big.Int, *big.Rat) {
	q := new(big.Int).Quo(x.Num(), x.Denom())
	return q, new(big.Rat).Sub(x, new(big.Rat).SetInt(q))
}

// even tells a number rounded to a whole one: to the nearest, of two to the even one.
func even(x *big.Rat) *big.Int {
	q, left := floor(x)
	if c := left.Cmp(big.NewRat(1, 2)); c > 0 || c == 0 && q.Bit(0) == 1 {
		q.Add(q, num(1))
	}
	return q
}

// pointOf tells the p of 0.d1 d2 .. times 10^p, d1 not 0.
func pointOf(x *big.Rat) int {
	p := int(math.Floor(float64(x.Num().BitLen()-x.Denom().BitLen()) * math.Log10(2)))
	for x.Cmp(ratPower(10, p)) >= 0 {
		p++
	}
	for x.Cmp(ratPower(10, p-1)) < 0 {
		p--
	}
	return p
}

// exactText tells all digits of a number whose denominator is a power of 2, without noughts at the end.
func exactText(x *big.Rat) string {
	text := x.FloatString(x.Denom().BitLen() - 1)
	if strings.Contains(text, ".") {
		text = strings.TrimRight(text, "0")
	}
	return strings.TrimSuffix(text, ".")
}

// edges are patterns of all classes, at the ends of each, at powers of 2 and of ten, and at ties; without signs.
func edges() []uint64 {
	l := []uint64{
		0, 1, 2, 3, 4, 5, 1<<52 - 2, 1<<52 - 1, 1 << 52, 1<<52 + 1, 1<<53 - 1, 1 << 53, api.Inf64 - 2, api.Inf64 - 1,
		api.Inf64, api.Inf64 + 1, api.Inf64 + 1<<50, api.NaN64 - 1, api.NaN64, api.NaN64 + 1, 1<<63 - 1,
		f(0.125), f(0.375), f(0.5), f(1.5), f(2.5), f(9.5), f(9.75), f(9.95), f(31.5), f(99.5), f(999.9995), f(0.05), f(0.95), f(0.995),
		f(0x1p50 + 0.25), f(0x1p50 + 0.75), f(0x1p51 + 0.25), f(0x1p49 + 0.125), f(5e-324), f(2e-323), f(9.5367431640625e-7),
	}
	for p := -324; p <= 308; p++ {
		x, _ := strconv.ParseFloat("1e"+strconv.Itoa(p), 64)
		l = append(l, f(x), f(x)+1)
		if x > 0 {
			l = append(l, f(x)-1)
		}
	}
	return l
}

func edges32() []uint32 {
	l := []uint32{
		0, 1, 2, 3, 4, 5, 1<<23 - 2, 1<<23 - 1, 1 << 23, 1<<23 + 1, 1<<24 - 1, 1 << 24, api.Inf32 - 2, api.Inf32 - 1,
		api.Inf32, api.Inf32 + 1, api.Inf32 + 1<<20, api.NaN32 - 1, api.NaN32, api.NaN32 + 1, 1<<31 - 1,
		f32(0.125), f32(0.375), f32(0.5), f32(9.5), f32(9.75), f32(0x1p21 + 0.25), f32(0x1p20 + 0.25),
	}
	for p := -45; p <= 38; p++ {
		x, _ := strconv.ParseFloat("1e"+strconv.Itoa(p), 32)
		b := f32(float32(x))
		l = append(l, b, b+1)
		if b > 0 {
			l = append(l, b-1)
		}
	}
	return l
}

// patterns tells edges, powers of 2 and what lies beside them, n patterns by chance, and n numbers of few digits; with both signs.
func patterns(r *rand.Rand, n int) []uint64 {
	l := edges()
	for field := range uint64(2047) {
		l = append(l, field<<52, field<<52+1)
		if field > 0 {
			l = append(l, field<<52-1)
		}
	}
	for i := range uint64(52) {
		l = append(l, 1<<i, 1<<i+1)
	}
	for range n {
		l = append(l, r.Uint64())
		l = append(l, f(math.Ldexp(float64(r.Intn(100000)), r.Intn(40)-20)))
		l = append(l, f(float64(r.Int63n(1<<40))/math.Pow(10, float64(r.Intn(13)))))
	}
	for i, b := range l {
		if i%2 == 1 {
			l[i] = b ^ api.Neg64
		}
	}
	return l
}

func patterns32(r *rand.Rand, n int) []uint32 {
	l := edges32()
	for field := range uint32(255) {
		l = append(l, field<<23, field<<23+1)
		if field > 0 {
			l = append(l, field<<23-1)
		}
	}
	for i := range uint32(23) {
		l = append(l, 1<<i, 1<<i+1)
	}
	for range n {
		l = append(l, r.Uint32(), f32(float32(r.Intn(100000))/64))
	}
	for i, b := range l {
		if i%2 == 1 {
			l[i] = b ^ api.Neg32
		}
	}
	return l
}

// same fails unless two are alike.
func same[T comparable](t *testing.T, what string, got, want T) {
	t.Helper()
	if got != want {
		t.Fatalf("%s: %v; want %v", what, got, want)
	}
}

// hex tells a pattern for what a test says.
func hex(b uint64) string { return strconv.FormatUint(b, 16) }
