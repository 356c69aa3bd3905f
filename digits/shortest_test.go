package digits_test

import (
	"math"
	"math/big"
	"math/rand"
	"strconv"
	"strings"
	"testing"

	"fathom/api"
	"fathom/digits"
)

// shortest tells the chapter's shortest decimal of a number, by its words: with one digit, two, and so on, the decimals next to it are held against what is read.
func (w width) shortest(x *big.Rat) string {
	if x.Sign() == 0 {
		return "0"
	}
	b, p := w.nearest(x), pointOf(x)
	for n := 1; ; n++ {
		unit := ratPower(10, p-n)
		down, left := floor(new(big.Rat).Quo(x, unit))
		up := new(big.Int).Add(down, num(1))
		best := (*big.Int)(nil)
		for _, m := range []*big.Int{down, up} {
			if y := new(big.Rat).SetInt(m); w.nearest(y.Mul(y, unit)) == b && (best == nil || takesUp(down, left)) {
				best = m
			}
		}
		if best != nil {
			return written(best.String(), p-n)
		}
	}
}

// takesUp tells whether the next number above is nearer, or as near, and down is odd.
func takesUp(down *big.Int, left *big.Rat) bool {
	c := left.Cmp(big.NewRat(1, 2))
	return c > 0 || c == 0 && down.Bit(0) == 1
}

// written tells digits times 10^tens, plainly or with an exponent.
func written(text string, tens int) string {
	p := len(text) + tens
	d := strings.TrimRight(text, "0")
	switch {
	case p < -5 || p > 21:
		head, rest := d[:1], d[1:]
		if rest != "" {
			rest = "." + rest
		}
		return head + rest + "e" + strconv.Itoa(p-1)
	case p <= 0:
		return "0." + strings.Repeat("0", -p) + d
	case len(d) <= p:
		return d + strings.Repeat("0", p-len(d))
	}
	return d[:p] + "." + d[p:]
}

// P5.1: against the model.
func TestShortest(t *testing.T) {
	w := wide()
	for _, b := range patterns(rand.New(rand.NewSource(51)), 3000) {
		same(t, "Shortest("+hex(b)+")", digits.Shortest(b), w.told(b, w.shortest))
	}
}

func TestShortest32(t *testing.T) {
	w := narrow()
	for _, b := range patterns32(rand.New(rand.NewSource(52)), 10000) {
		same(t, "Shortest32("+hex(uint64(b))+")", digits.Shortest32(b), w.told(uint64(b), w.shortest))
	}
}

// P5.1: the edges that the chapter names, one by one.
func TestShortestByHand(t *testing.T) {
	for want, b := range map[string]uint64{
		"0":                       0,
		"-0":                      api.Neg64,
		"5e-324":                  1,
		"1e-323":                  2,
		"1.5e-323":                3,
		"2.225073858507201e-308":  1<<52 - 1,
		"2.2250738585072014e-308": 1 << 52,
		"1.7976931348623157e308":  api.Inf64 - 1,
		"0.000001":                f(1e-6),
		"0.00000123":              f(1.23e-6),
		"1e-7":                    f(1e-7),
		"9.999999999999997e-7":    f(1e-6) - 1,
		"100000000000000000000":   f(1e20),
		"123400000000000000000":   f(1.234e20),
		"1e21":                    f(1e21),
		"999999999999999900000":   f(999999999999999900000),
		"-1.5":                    f(-1.5),
		"1125899906842624.2":      f(0x1p50 + 0.25), // .2 and .3 are as near
		"1125899906842624.8":      f(0x1p50 + 0.75), // .7 and .8
		"9007199254740992":        f(0x1p53),
		"9.5367431640625e-7":      f(0x1p-20),
		"5.684341886080802e-14":   f(0x1p-44), // ..8015 is nearer, but longer
		"2e23":                    f(2e23),
		"1e23":                    f(1e23), // just midway to the next one, and this one is the even one
		"9.007199254740994e22":    f(9.007199254740994e22),
		"inf":                     api.Inf64,
		"-inf":                    api.Inf64 | api.Neg64,
		"nan":                     api.NaN64,
		"-nan":                    api.NaN64 | api.Neg64,
		"nan:0000000000001":       api.Inf64 + 1,
		"-nan:fffffffffffff":      math.MaxUint64,
		"nan:8000000000001":       api.NaN64 + 1,
		"nan:7ffffffffffff":       api.NaN64 - 1,
	} {
		same(t, "Shortest("+hex(b)+")", digits.Shortest(b), want)
	}
	for want, b := range map[string]uint32{
		"0":             0,
		"-0":            api.Neg32,
		"1e-45":         1,
		"3e-45":         2,
		"1.1754944e-38": 1 << 23,
		"3.4028235e38":  api.Inf32 - 1,
		"0.1":           0x3dcccccd,
		"16777216":      f32(1 << 24),
		"2097152.2":     f32(0x1p21 + 0.25),
		"-0.000001":     f32(-1e-6),
		"1e-7":          f32(1e-7),
		"1e21":          f32(1e21),
		"inf":           api.Inf32,
		"nan":           api.NaN32,
		"-nan":          api.NaN32 | api.Neg32,
		"nan:000001":    api.Inf32 + 1,
		"nan:3fffff":    api.NaN32 - 1,
		"-nan:7fffff":   math.MaxUint32,
	} {
		same(t, "Shortest32("+hex(uint64(b))+")", digits.Shortest32(b), want)
	}
}

// P5.7: how many digits there are at most.
func TestFewDigits(t *testing.T) {
	r := rand.New(rand.NewSource(53))
	for _, b := range patterns(r, 10000) {
		if s := digits.Shortest(b); countDigits(s) > 17 {
			t.Fatalf("Shortest(%x): %s", b, s)
		}
	}
	for _, b := range patterns32(r, 10000) {
		if s := digits.Shortest32(b); countDigits(s) > 9 {
			t.Fatalf("Shortest32(%x): %s", b, s)
		}
	}
}

// countDigits tells how many digits a decimal has; of what is no finite number: 0.
func countDigits(s string) int {
	if strings.Contains(s, "n") {
		return 0
	}
	s, _, _ = strings.Cut(strings.TrimPrefix(s, "-"), "e")
	whole, rest, found := strings.Cut(s, ".")
	if !found {
		whole = strings.TrimRight(whole, "0")
	}
	return len(strings.TrimLeft(whole+rest, "0"))
}
