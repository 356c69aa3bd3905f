package limb

import (
	"slices"

	"fathom/api"
)

// Decimals are made and read some digits at once: as many as a limb holds.
const (
	unitDigits = 9
	unit       = 1000000000
)

const limbBytes = limbBits / 8

// Bytes tells its bytes, the highest first.
func Bytes(a api.Nat) []byte {
	if Check(a) != api.OK {
		return nil
	}
	b := make([]byte, (Len(a)+7)/8)
	for i := range len(b) {
		b[len(b)-1-i] = byte(a[i/limbBytes] >> (i % limbBytes * 8))
	}
	return b
}

// OfBytes tells the number of bytes, the highest first.
func OfBytes(b []byte) (api.Nat, api.Errno) {
	switch {
	case len(b) > 0 && b[0] == 0:
		return nil, api.ErrLimbBytes
	case len(b) > limbBytes*api.MaxLimbs:
		return nil, api.ErrLimbLong
	}
	work := make([]uint32, (len(b)+limbBytes-1)/limbBytes)
	for i := range len(b) {
		work[i/limbBytes] |= uint32(b[len(b)-1-i]) << (i % limbBytes * 8)
	}
	return tell(work)
}

// Text tells its decimal.
func Text(a api.Nat) string {
	if Check(a) != api.OK {
		return ""
	}
	if len(a) == 0 {
		return "0"
	}
	digits := digitsOf(a)
	slices.Reverse(digits)
	return string(digits)
}

// OfText tells the number of a decimal.
func OfText(s string) (api.Nat, api.Errno) {
	if !isDecimal(s) {
		return nil, api.ErrLimbText
	}
	work := []uint32{}
	for len(s) > 0 && len(work) <= api.MaxLimbs {
		n := (len(s)-1)%unitDigits + 1
		worth, part := readDigits(s[:n])
		work = grow(work, worth, part)
		s = s[n:]
	}
	return tell(work)
}

// digitsOf tells a number's digits, the lowest first; it is not 0.
func digitsOf(a api.Nat) []byte {
	digits := []byte{}
	work := []uint32(fresh(a))
	for len(work) > 0 {
		part := shrink(work, unit)
		work = trim(work)
		for range unitDigits {
			digits = append(digits, '0'+byte(part%10))
			part /= 10
		}
	}
	n := len(digits)
	for digits[n-1] == '0' {
		n--
	}
	return digits[:n:n]
}

func isDecimal(s string) bool {
	for i := range len(s) {
		if s[i] < '0' || s[i] > '9' {
			return false
		}
	}
	return len(s) == 1 || len(s) > 1 && s[0] != '0'
}

// readDigits tells the number of a few digits, and the power of ten that they are worth.
func readDigits(s string) (worth, part uint32) {
	worth = 1
	for i := range len(s) {
		part = part*10 + uint32(s[i]-'0')
		worth *= 10
	}
	return worth, part
}

// grow multiplies work, and adds a limb; a limb more is laid on top where it is needed.
func grow(work []uint32, times, more uint32) []uint32 {
	carry := uint64(more)
	for i := range len(work) {
		carry += uint64(work[i]) * uint64(times)
		work[i] = uint32(carry)
		carry >>= limbBits
	}
	if carry == 0 {
		return work
	}
	return append(work, uint32(carry))
}
