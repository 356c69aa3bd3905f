package digits_test

import (
	"math"
	"math/big"
	"math/rand"
	"strconv"
	"strings"
	"testing"

	"fathom/api"
	"fathom/digits"
)

// base16 tells a number in base 16, by the chapter's words.
func base16(x *big.Rat) string {
	if x.Sign() == 0 {
		return "0x0p0"
	}
	power := x.Num().BitLen() - x.Denom().BitLen()
	y := new(big.Rat).Mul(x, ratPower(2, -power)) // the denominator is a power of 2: 1 to 2
	if y.Cmp(big.NewRat(1, 1)) < 0 || y.Cmp(big.NewRat(2, 1)) >= 0 {
		panic("not as said")
	}
	_, left := floor(y)
	text := "0x1."
	for left.Sign() != 0 {
		d, rest := floor(left.Mul(left, big.NewRat(16, 1)))
		text, left = text+d.Text(16), rest
	}
	return strings.TrimSuffix(text, ".") + "p" + strconv.Itoa(power)
}

// P5.5.
func TestHex(t *testing.T) {
	r := rand.New(rand.NewSource(56))
	for _, b := range patterns(r, 5000) {
		same(t, "Hex("+hex(b)+")", digits.Hex(b), wide().told(b, base16))
	}
	for _, b := range patterns32(r, 5000) {
		same(t, "Hex32("+hex(uint64(b))+")", digits.Hex32(b), narrow().told(uint64(b), base16))
	}
}

func TestHexByHand(t *testing.T) {
	for want, b := range map[string]uint64{
		"0x0p0": 0, "-0x0p0": api.Neg64, "0x1p-1074": 1, "0x1.8p-1073": 3, "0x1.ffffffffffffep-1023": 1<<52 - 1, "0x1p-1022": 1 << 52, "0x1.fffffffffffffp1023": api.Inf64 - 1,
		"0x1p0": f(1), "-0x1.8p0": f(-1.5), "0x1.08p4": f(16.5), "0x1.0000000000001p0": f(1) + 1, "0x1.1p4": f(17), "0x1.999999999999ap-4": f(0.1),
		"inf": api.Inf64, "-nan": api.NaN64 | api.Neg64, "-nan:8000000000001": 0xfff8000000000001, "nan:0000000000001": api.Inf64 + 1,
	} {
		same(t, "Hex("+hex(b)+")", digits.Hex(b), want)
	}
	for want, b := range map[string]uint32{
		"0x0p0": 0, "-0x0p0": api.Neg32, "0x1p-149": 1, "0x1.8p-148": 3, "0x1.fffffcp-127": 1<<23 - 1, "0x1p-126": 1 << 23, "0x1.fffffep127": api.Inf32 - 1, "0x1.99999ap-4": f32(0.1),
		"-inf": api.Inf32 | api.Neg32, "nan": api.NaN32, "nan:400001": api.NaN32 + 1, "nan:000001": api.Inf32 + 1, "-nan:7fffff": math.MaxUint32,
	} {
		same(t, "Hex32("+hex(uint64(b))+")", digits.Hex32(b), want)
	}
}
