package digits_test

import (
	"math"
	"math/big"
	"math/rand"
	"strconv"
	"strings"
	"testing"

	"fathom/api"
	"fathom/digits"
)

// parsed64 and parsed32 fail unless a text is read as a pattern, and with a - ahead as that with its sign.
func parsed64(t *testing.T, s string, want uint64) {
	t.Helper()
	for sign, text := range []string{s, "-" + s} {
		if b, fault := digits.Parse(text); b != want|uint64(sign)<<63 || fault != (api.Fault{}) {
			t.Fatalf("Parse(%s): %x, %v; want %x", brief(text), b, fault, want|uint64(sign)<<63)
		}
	}
}

func parsed32(t *testing.T, s string, want uint32) {
	t.Helper()
	for sign, text := range []string{s, "-" + s} {
		if b, fault := digits.Parse32(text); b != want|uint32(sign)<<31 || fault != (api.Fault{}) {
			t.Fatalf("Parse32(%s): %x, %v; want %x", brief(text), b, fault, want|uint32(sign)<<31)
		}
	}
}

func brief(s string) string {
	if len(s) > 100 {
		return s[:50] + " .. " + s[len(s)-50:]
	}
	return s
}

// P5.6: texts of which others know the number.
func TestParseByHand(t *testing.T) {
	nines := strings.Repeat("9", 60000)
	noughts := strings.Repeat("0", 60000)
	for s, want := range map[string]uint64{
		"0": 0, "00": 0, "0.0": 0, "0e5": 0, "0e" + nines: 0, "0.000e-99999999999999999999": 0, "0x0p0": 0, "0x0.00p" + nines: 0, noughts: 0, "0." + noughts: 0,
		"1": f(1), "0001": f(1), "1.0": f(1), "1.5": f(1.5), "007.50E+1": f(75), "75e0": f(75), "750e-1": f(75), "0.75e2": f(75), "7.5e00000001": f(75), "7.5E1": f(75), "7500e-0002": f(75),
		"inf": api.Inf64, "nan": api.NaN64, "nan:0000000000001": api.Inf64 + 1, "nan:8000000000000": api.NaN64, "nan:fffffffffffff": math.MaxInt64, "nan:0123456789abc": 0x7ff0123456789abc,
		"1e400": api.Inf64, "1e-400": 0, "1e308": f(1e308), "1e309": api.Inf64, "1e" + nines: api.Inf64, "1e-" + nines: 0, "0x1p" + nines: api.Inf64, "0x1p-" + nines: 0,
		"1e9223372036854775807": api.Inf64, "1e9223372036854775808": api.Inf64, "1e18446744073709551617": api.Inf64, "1e-9223372036854775809": 0, "0x1p18446744073709551616": api.Inf64, "0x1p-18446744073709551616": 0, "1e4294967296": api.Inf64,
		"1" + noughts + "e-60000": f(1), "0." + noughts + "1e60001": f(1), "1" + noughts: api.Inf64, "0." + noughts + "1": 0, noughts + "1": f(1), "1." + noughts: f(1), "1." + noughts + "1": f(1), nines: api.Inf64, "0." + nines: f(1), nines + "e-60000": f(1),
		"0x1" + noughts + "p-240000": f(1), "0x0." + noughts + "1p240004": f(1), "0x1" + noughts + "p-241074": 1, "0x0." + noughts + "1p0": 0, "0x" + noughts + "1p0": f(1), "0x1." + noughts + "1p0": f(1), "0x1" + noughts + "p0": api.Inf64,
		"9007199254740993": f(0x1p53), "9007199254740993.0000000000000000001": f(0x1p53) + 1, "9007199254740993." + noughts + "1": f(0x1p53) + 1, "9007199254740992." + nines: f(0x1p53), "9007199254740994." + nines: f(0x1p53) + 1, "9007199254740995": f(0x1p53) + 2, "9007199254740995." + noughts + "0": f(0x1p53) + 2,
		"0x1.00000000000008p0": f(1), "0x1.000000000000081p0": f(1) + 1, "0x1.00000000000008" + noughts + "p0": f(1), "0x1.00000000000008" + noughts + "1p0": f(1) + 1, "0x1.00000000000018p0": f(1) + 2, "0x1.00000000000017ffp0": f(1) + 1,
		"0xap0": f(10), "0xffp-4": f(255.0 / 16), "0x0.8p1": f(1), "0x10p-4": f(1), "0x00010.0p-04": f(1), "0x3p0": f(3), "0xdeadbeefp0": f(0xdeadbeef), "0x1ep1": f(60), "0x1e1p0": f(0x1e1),
		"1.7976931348623157e308": api.Inf64 - 1, "1.7976931348623158e308": api.Inf64 - 1, "1.7976931348623159e308": api.Inf64, "0x1.fffffffffffffp1023": api.Inf64 - 1, "0x1.fffffffffffff7fp1023": api.Inf64 - 1, "0x1.fffffffffffff8p1023": api.Inf64, "0x1p1024": api.Inf64,
		"5e-324": 1, "2.4703282292062327e-324": 0, "2.4703282292062328e-324": 1, "0x1p-1074": 1, "0x1p-1075": 0, "0x1.0000000000000000001p-1075": 1, "0x1.8p-1074": 2, "0x0.8p-1074": 0, "7.4e-324": 1, "7.5e-324": 2,
		"2.2250738585072011e-308": 1<<52 - 1, "2.2250738585072012e-308": 1 << 52, "0x0.fffffffffffffp-1022": 1<<52 - 1, "0x0.fffffffffffff8p-1022": 1 << 52,
	} {
		parsed64(t, s, want)
	}
	for s, want := range map[string]uint32{
		"0": 0, "1": f32(1), "16777217": f32(1 << 24), "16777217.0000000001": f32(1<<24) + 1, "16777219": f32(1<<24) + 2, "0.1": 0x3dcccccd,
		"nan": api.NaN32, "nan:400000": api.NaN32, "nan:7fffff": math.MaxInt32, "nan:000001": api.Inf32 + 1, "inf": api.Inf32,
		"1e39": api.Inf32, "3.4028235e38": api.Inf32 - 1, "3.4028236e38": api.Inf32, "0x1.fffffep127": api.Inf32 - 1, "0x1.fffffefp127": api.Inf32 - 1, "0x1.ffffffp127": api.Inf32, "1e300": api.Inf32, "1e" + nines: api.Inf32,
		"1e-45": 1, "7.0e-46": 0, "7.1e-46": 1, "0x1p-149": 1, "0x1p-150": 0, "0x1.000001p-150": 1, "0x1.8p-149": 2, "1e-300": 0, "1e-" + nines: 0,
		"0x1.000001p0": f32(1), "0x1.00000100000000001p0": f32(1) + 1, "1.000000059604644775390625": f32(1), "1.00000005960464477539062500000000000000001": f32(1) + 1, "1.000000178813934326171874999999999999999999": f32(1) + 1, // as binary64s they would be midway
	} {
		parsed32(t, s, want)
	}
}

// P5.6: a number midway between neighbours is read as the even one; what is but a hair off, as the nearer one.
func TestMidway(t *testing.T) {
	r := rand.New(rand.NewSource(57))
	for _, b := range patterns(r, 300) {
		if b &^= api.Neg64; b < api.Inf64 && b > 0 {
			aboutMidway(t, wide(), b, func(s string, want uint64) { parsed64(t, s, want) })
		}
	}
	for _, b := range patterns32(r, 1000) {
		if b &^= api.Neg32; b < api.Inf32 && b > 0 {
			aboutMidway(t, narrow(), uint64(b), func(s string, want uint64) { parsed32(t, s, uint32(want)) })
		}
	}
	text := exactText(wide().midway(1<<52 - 1)) // as many digits as there can be
	same(t, "digits", countDigits(text), 768)
	parsed64(t, text+strings.Repeat("0", api.MaxText-1-len(text)), 1<<52)
	parsed64(t, text+strings.Repeat("0", api.MaxText-2-len(text))+"1", 1<<52)
	parsed64(t, below(text)+strings.Repeat("9", api.MaxText-1-len(text)), 1<<52-1)
	text = exactText(wide().midway(1<<52 - 2))
	parsed64(t, text+strings.Repeat("0", api.MaxText-1-len(text)), 1<<52-2)
	parsed64(t, text+strings.Repeat("0", api.MaxText-2-len(text))+"1", 1<<52-1)
}

func aboutMidway(t *testing.T, w width, b uint64, check func(s string, want uint64)) {
	t.Helper()
	text := exactText(w.midway(b))
	check(text, b+b%2)
	if !strings.Contains(text, ".") {
		text += ".0"
	}
	check(text+"000000000000000001", b+1)
	check(text+strings.Repeat("0", 1500)+"1", b+1)
	check(below(text)+strings.Repeat("9", 1500), b)
}

// below tells a decimal with a point, its last digit less one: with nines behind, it is a hair below.
func below(text string) string {
	l := []byte(text)
	for i := len(l) - 1; ; i-- {
		switch l[i] {
		case '.':
		case '0':
			l[i] = '9'
		default:
			l[i]--
			return string(l)
		}
	}
}

// P5.6: decimals of any digits and powers, against the model.
func TestParseOfAny(t *testing.T) {
	r := rand.New(rand.NewSource(58))
	for range 30000 {
		s := anyDigits(r, "0123456789", 1+r.Intn(25))
		if r.Intn(2) == 0 {
			s += "." + anyDigits(r, "0123456789", 1+r.Intn(25))
		}
		if r.Intn(4) > 0 {
			reach := []int{10, 60, 400}[r.Intn(3)]
			s += []string{"e", "E", "e-", "e+", "E-"}[r.Intn(5)] + strconv.Itoa(r.Intn(reach))
		}
		x, ok := new(big.Rat).SetString(s)
		if !ok {
			t.Fatalf("%s is none to the model", s)
		}
		parsed64(t, s, wide().nearest(x))
		parsed32(t, s, uint32(narrow().nearest(x)))
	}
}

func TestParseOfAnyBase16(t *testing.T) {
	r := rand.New(rand.NewSource(59))
	for range 30000 {
		whole, rest := anyDigits(r, "0123456789abcdef", 1+r.Intn(25)), ""
		power := r.Intn(2400) - 1200
		if r.Intn(2) == 0 {
			power = r.Intn(300) - 150
		}
		s := "0x" + whole
		if r.Intn(2) == 0 {
			rest = anyDigits(r, "0123456789abcdef", 1+r.Intn(25))
			s += "." + rest
		}
		m, _ := new(big.Int).SetString(whole+rest, 16)
		x := new(big.Rat).SetInt(m)
		x.Mul(x, ratPower(2, power-4*len(rest)))
		parsed64(t, s+"p"+strconv.Itoa(power), wide().nearest(x))
		parsed32(t, s+"p"+strconv.Itoa(power), uint32(narrow().nearest(x)))
	}
}

// anyDigits tells digits by chance; in some texts most are noughts, or the last one.
func anyDigits(r *rand.Rand, all string, n int) string {
	l, plain := make([]byte, n), r.Intn(3)
	for i := range l {
		l[i] = all[r.Intn(len(all))]
		if plain == 1 && r.Intn(8) > 0 {
			l[i] = '0'
		}
		if plain == 2 && r.Intn(8) > 0 {
			l[i] = all[len(all)-1]
		}
	}
	return string(l)
}

// P5.7: there and back.
func TestThereAndBack(t *testing.T) {
	r := rand.New(rand.NewSource(60))
	for _, b := range patterns(r, 5000) {
		texts := []string{digits.Shortest(b), digits.Hex(b), digits.Exact(b)}
		if b&^api.Neg64 <= api.Inf64 {
			s, _ := digits.Digits(b, 17)
			texts = append(texts, s)
		}
		for _, s := range texts {
			if back, fault := digits.Parse(s); back != b || fault != (api.Fault{}) {
				t.Fatalf("Parse(%s): %x, %v; want %x", brief(s), back, fault, b)
			}
		}
	}
	for _, b := range patterns32(r, 10000) {
		for _, s := range []string{digits.Shortest32(b), digits.Hex32(b)} {
			if back, fault := digits.Parse32(s); back != b || fault != (api.Fault{}) {
				t.Fatalf("Parse32(%s): %x, %v; want %x", s, back, fault, b)
			}
		}
	}
}

// P5.7: unlike patterns have unlike texts.
func TestUnlike(t *testing.T) {
	r := rand.New(rand.NewSource(61))
	for _, call := range []func(b uint64) string{digits.Shortest, digits.Hex, digits.Exact} {
		seen := map[string]uint64{}
		for _, b := range patterns(r, 500) {
			for _, c := range []uint64{b, b ^ api.Neg64, b ^ 1, b ^ 1<<51} {
				s := call(c)
				if other, ok := seen[s]; ok && other != c {
					t.Fatalf("%x and %x: %s", c, other, brief(s))
				}
				seen[s] = c
			}
		}
	}
	for _, call := range []func(b uint32) string{digits.Shortest32, digits.Hex32} {
		seen := map[string]uint32{}
		for _, b := range patterns32(r, 2000) {
			for _, c := range []uint32{b, b ^ api.Neg32, b ^ 1, b ^ 1<<22} {
				s := call(c)
				if other, ok := seen[s]; ok && other != c {
					t.Fatalf("%x and %x: %s", c, other, s)
				}
				seen[s] = c
			}
		}
	}
}
