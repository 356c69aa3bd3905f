package code

import (
	"fathom/api"
	"fathom/bits"
)

func packStride[T word](l []T) ([]byte, api.Errno) {
	w := &bits.Writer{}
	for i, v := range l {
		w.Zig(signed(v - expected(l[:i])))
	}
	return w.Done()
}

// unpackStride drops what a rest has beyond a value's width: packed again it is another rest.
func unpackStride[T word](b []byte, n int) ([]T, api.Errno) {
	r := bits.From(b)
	l := make([]T, n)
	for i := range l {
		l[i] = expected(l[:i]) + T(r.Zig())
	}
	return l, api.OK
}

// expected tells what the values so far let expect of the next one, modulo 2^W.
func expected[T word](ahead []T) T {
	switch n := len(ahead); n {
	case 0:
		return 0
	case 1:
		return ahead[0]
	default:
		return 2*ahead[n-1] - ahead[n-2]
	}
}
