package limb_test

import (
	"bytes"
	"math/big"
	"math/rand"
	"strings"
	"testing"

	"fathom/api"
	"fathom/limb"
)

// P2.8, P2.9: bytes there and back, the highest first, none of 0 ahead.
func TestBytes(t *testing.T) {
	for _, x := range append(singles(9, 2000), most(), two(maxBits-1), plus(two(maxBits-9), -1)) {
		b := limb.Bytes(natOf(x))
		if !bytes.Equal(b, x.Bytes()) {
			t.Fatalf("Bytes of %s: %x", short(x), b)
		}
		a, e := limb.OfBytes(b)
		is(t, "OfBytes of Bytes", a, e, x)
	}
}

// P2.8, P2.9: every list of bytes is refused, or read and told again.
func TestOfBytes(t *testing.T) {
	rnd := rand.New(rand.NewSource(11))
	for range 3000 {
		b := make([]byte, rnd.Intn(40))
		for i := range b {
			b[i] = byte(rnd.Intn(256) >> rnd.Intn(9))
		}
		a, e := limb.OfBytes(b)
		if len(b) > 0 && b[0] == 0 {
			fails(t, "OfBytes", a, e, api.ErrLimbBytes)
			continue
		}
		is(t, "OfBytes", a, e, new(big.Int).SetBytes(b))
		if !bytes.Equal(limb.Bytes(a), b) {
			t.Fatalf("Bytes of OfBytes(%x): %x", b, limb.Bytes(a))
		}
	}
}

// P2.5, P2.8: bytes that are too many; a nought ahead is told first.
func TestOfBytesRefuses(t *testing.T) {
	full := bytes.Repeat([]byte{0xff}, 4*api.MaxLimbs)
	a, e := limb.OfBytes(full)
	is(t, "OfBytes", a, e, most())
	for _, b := range [][]byte{append([]byte{1}, full...), bytes.Repeat([]byte{1}, 1<<20)} {
		a, e = limb.OfBytes(b)
		fails(t, "OfBytes of too many", a, e, api.ErrLimbLong)
	}
	for _, b := range [][]byte{{0}, {0, 0}, {0, 1}, append([]byte{0}, full...)} {
		a, e = limb.OfBytes(b)
		fails(t, "OfBytes with a nought ahead", a, e, api.ErrLimbBytes)
	}
}

// P2.8, P2.9: decimals there and back, next to powers of ten too.
func TestText(t *testing.T) {
	l := append(singles(9, 2000), most(), two(maxBits-1))
	for n := range int64(60) {
		power := new(big.Int).Exp(num(10), num(n), nil)
		l = append(l, plus(power, -1), power, plus(power, 1))
	}
	l = append(l, new(big.Int).Exp(num(10), num(78913), nil))
	for _, x := range l {
		s := limb.Text(natOf(x))
		if s != x.String() {
			t.Fatalf("Text of %s: %.100s", short(x), s)
		}
		a, e := limb.OfText(s)
		is(t, "OfText of Text", a, e, x)
	}
}

// P2.8: texts that are no decimals, of all single bytes too.
func TestOfTextRefuses(t *testing.T) {
	l := []string{"", "00", "007", "01", "+1", "-1", "-0", "-", "+", " 1", "1 ", "1\n", "1_000", "1,000", "1.0", "1e3", "0x1", "12a", "a12", "123456789:", "/123456789", "1234567890123456789012345678901x", "١", "１", "1\xff", "\x00", "1\x00"}
	for _, s := range l {
		a, e := limb.OfText(s)
		fails(t, "OfText of "+s, a, e, api.ErrLimbText)
	}
	for c := range 256 {
		s := string([]byte{byte(c)})
		a, e := limb.OfText(s)
		if c >= '0' && c <= '9' {
			is(t, "OfText of "+s, a, e, num(int64(c-'0')))
		} else {
			fails(t, "OfText", a, e, api.ErrLimbText)
		}
		if c < '0' || c > '9' {
			for _, s := range []string{s + "12", "1" + s + "2", "12" + s} {
				a, e := limb.OfText(s)
				fails(t, "OfText", a, e, api.ErrLimbText)
			}
		}
	}
}

// P2.5, P2.8: texts of numbers that are too long; what is no decimal is told first.
func TestOfTextTooLong(t *testing.T) {
	s := two(maxBits).String()
	a, e := limb.OfText(s)
	fails(t, "OfText of 2^262144", a, e, api.ErrLimbLong)
	for _, n := range []int{len(s) + 1, len(s) + 100, 1 << 20, 1<<20 + 5} {
		long := strings.Repeat("1", n)
		a, e = limb.OfText(long)
		fails(t, "OfText of a long one", a, e, api.ErrLimbLong)
		for _, s := range []string{"0" + long, long + "x", "x" + long, long + " ", long[:n/2] + "." + long} {
			a, e = limb.OfText(s)
			fails(t, "OfText of a long one that is no decimal", a, e, api.ErrLimbText)
		}
	}
}
