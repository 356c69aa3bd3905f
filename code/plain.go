package code

import (
	"fathom/api"
	"fathom/bits"
)

func packPlain[T word](l []T) ([]byte, api.Errno) {
	w := &bits.Writer{}
	for _, v := range l {
		layValue(w, v)
	}
	return w.Done()
}

func unpackPlain[T word](b []byte, n int) ([]T, api.Errno) {
	r := bits.From(b)
	l := make([]T, n)
	for i := range l {
		l[i] = takeValue[T](r)
	}
	return l, api.OK
}

// layValue lays a value's own bits.
func layValue[T word](w *bits.Writer, v T) { w.Bits(uint64(v), width[T]()) }

func takeValue[T word](r *bits.Reader) T { return T(r.Bits(width[T]())) }
