package digits

import (
	"math/bits"
	"strconv"

	"fathom/float"
)

// base16 tells a finite binary64's number, which has no sign, in base 16.
func base16(b uint64) string {
	_, m, e, _ := float.Split(b)
	if m == 0 {
		return "0x0p0"
	}
	behind := bits.Len64(m) - 1 // bits behind the first 1; the last one is 1, as m is odd: so no digit at the end is 0
	text := "0x1"
	if behind > 0 {
		n := (behind + 3) / 4
		fraction := m ^ 1<<behind
		text += "." + digits16(fraction<<(4*n-behind), n)
	}
	return text + "p" + strconv.Itoa(e+behind)
}

// digits16 tells the lowest n digits of a number in base 16.
func digits16(x uint64, n int) string {
	const all = "0123456789abcdef"
	text := make([]byte, n)
	for i := range n {
		text[n-1-i] = all[x>>(4*i)&15]
	}
	return string(text)
}
