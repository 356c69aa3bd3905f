package digits_test

import (
	"math"
	"math/big"
	"math/rand"
	"strconv"
	"strings"
	"testing"

	"fathom/api"
	"fathom/digits"
)

// places tells a number rounded to n places, by the chapter's words.
func places(x *big.Rat, n int) string {
	text := even(new(big.Rat).Mul(x, ratPower(10, n))).String()
	text = strings.Repeat("0", max(n+1-len(text), 0)) + text
	if n == 0 {
		return text
	}
	return text[:len(text)-n] + "." + text[len(text)-n:]
}

// leading tells a number rounded to n digits.
func leading(x *big.Rat, n int) string {
	text, p := strings.Repeat("0", n), 1
	if x.Sign() > 0 {
		p = pointOf(x)
		text = even(new(big.Rat).Mul(x, ratPower(10, n-p))).String()
		p += len(text) - n
		text = text[:n]
	}
	if n > 1 {
		text = text[:1] + "." + text[1:]
	}
	return text + "e" + strconv.Itoa(p-1)
}

func checkPlaces(t *testing.T, b uint64, n int) {
	t.Helper()
	s, e := digits.Places(b, n)
	same(t, "Places("+hex(b)+", "+strconv.Itoa(n)+")", s, wide().told(b, func(x *big.Rat) string { return places(x, n) }))
	same(t, "its error", e, api.OK)
}

func checkDigits(t *testing.T, b uint64, n int) {
	t.Helper()
	s, e := digits.Digits(b, n)
	same(t, "Digits("+hex(b)+", "+strconv.Itoa(n)+")", s, wide().told(b, func(x *big.Rat) string { return leading(x, n) }))
	same(t, "its error", e, api.OK)
}

// P5.2, P5.3: against the model, with few digits, all of them, more than there are.
func TestRoundedToMany(t *testing.T) {
	r := rand.New(rand.NewSource(54))
	for _, b := range patterns(r, 1000) {
		for _, n := range []int{0, r.Intn(20), r.Intn(400), r.Intn(api.MaxPlaces + 1)} {
			checkPlaces(t, b, n)
		}
		for _, n := range []int{1, 17, 1 + r.Intn(20), 1 + r.Intn(api.MaxDigits)} {
			checkDigits(t, b, n)
		}
	}
}

// P5.2, P5.3: each place of some numbers, from beyond the first digit to beyond the last.
func TestRoundedToEach(t *testing.T) {
	for _, b := range []uint64{0, api.Neg64, 1, 3, 1<<52 - 1, api.Inf64 - 1, f(0.1), f(-0.5), f(0.95), f(999.9995), f(1e22), f(0x1p-20), f(5e-320), api.Inf64, api.NaN64 + 1} {
		for n := range api.MaxPlaces + 1 {
			checkPlaces(t, b, n)
		}
		for n := range api.MaxDigits {
			checkDigits(t, b, n+1)
		}
	}
}

// P5.2, P5.3: ties, by whole eighths: all that lie midway between neighbours of up to three places.
func TestTies(t *testing.T) {
	for i := range 20000 {
		b := f(float64(i-10000) / 8)
		for n := range 4 {
			checkPlaces(t, b, n)
			checkDigits(t, b, n+1)
		}
	}
}

func TestRoundedByHand(t *testing.T) {
	for _, c := range []struct {
		x    float64
		n    int
		want string
	}{
		{0.125, 2, "0.12"}, {0.375, 2, "0.38"}, {0.5, 0, "0"}, {-0.5, 0, "-0"}, {1.5, 0, "2"}, {2.5, 0, "2"}, {0.75, 0, "1"}, {0.05, 1, "0.1"}, {0.25, 1, "0.2"}, {-0.001, 2, "-0.00"},
		{9.5, 0, "10"}, {99.5, 0, "100"}, {99.96875, 1, "100.0"}, {1e21, 2, "1000000000000000000000.00"}, {0x1p-1074, 3, "0.000"}, {7, 3, "7.000"}, {math.Inf(-1), 5, "-inf"},
	} {
		s, e := digits.Places(f(c.x), c.n)
		same(t, "Places", s, c.want)
		same(t, "its error", e, api.OK)
	}
	for _, c := range []struct {
		x    float64
		n    int
		want string
	}{
		{9.75, 2, "9.8e0"}, {9.95, 2, "9.9e0"}, {31.5, 2, "3.2e1"}, {9.5, 1, "1e1"}, {8.5, 1, "8e0"}, {99.5, 2, "1.0e2"}, {0.99951171875, 3, "1.00e0"}, {0, 1, "0e0"}, {math.Copysign(0, -1), 4, "-0.000e0"},
		{0x1p-1074, 3, "4.94e-324"}, {math.MaxFloat64, 3, "1.80e308"}, {math.MaxFloat64, 1, "2e308"}, {-1234.5, 6, "-1.23450e3"}, {math.Inf(1), 9, "inf"},
	} {
		s, e := digits.Digits(f(c.x), c.n)
		same(t, "Digits", s, c.want)
		same(t, "its error", e, api.OK)
	}
}

// P5.2, P5.3: counts that may not be, whatever the number is; beside the error there is no text.
func TestCounts(t *testing.T) {
	for _, b := range []uint64{0, f(1.5), api.Inf64, api.NaN64, api.NaN64 + 1, math.MaxUint64} {
		for _, n := range []int{-1, math.MinInt, api.MaxPlaces + 1, math.MaxInt} {
			s, e := digits.Places(b, n)
			same(t, "Places", e, api.ErrDigitsCount)
			same(t, "its text", s, "")
		}
		for _, n := range []int{0, -1, math.MinInt, api.MaxDigits + 1, math.MaxInt} {
			s, e := digits.Digits(b, n)
			same(t, "Digits", e, api.ErrDigitsCount)
			same(t, "its text", s, "")
		}
	}
}

// P5.4.
func TestExact(t *testing.T) {
	for _, b := range patterns(rand.New(rand.NewSource(55)), 3000) {
		same(t, "Exact("+hex(b)+")", digits.Exact(b), wide().told(b, exactText))
	}
	for want, x := range map[string]float64{
		"0": 0, "-0": math.Copysign(0, -1), "1": 1, "1000": 1000, "-1.5": -1.5, "0.0009765625": 0x1p-10, "10000000000000000000000": 1e22,
		"0.1000000000000000055511151231257827021181583404541015625": 0.1, "inf": math.Inf(1), "nan": math.NaN(),
	} {
		b := f(x)
		if x != x {
			b = api.NaN64
		}
		same(t, "Exact", digits.Exact(b), want)
	}
	same(t, "digits of the least number", len(digits.Exact(1)), 2+1074)
	same(t, "of the greatest", len(digits.Exact(api.Inf64-1)), 309)
}
