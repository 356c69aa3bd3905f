package code

import (
	"slices"

	"fathom/api"
	"fathom/bits"
)

func packRuns[T word](l []T) ([]byte, api.Errno) {
	w := &bits.Writer{}
	for len(l) > 0 {
		n := equalAhead(l)
		layValue(w, l[0])
		w.Var(uint64(n - 1))
		l = l[n:]
	}
	return w.Done()
}

// equalAhead tells how many values at the front are equal.
func equalAhead[T word](l []T) int {
	n := slices.IndexFunc(l, func(v T) bool { return v != l[0] })
	if n < 0 {
		return len(l)
	}
	return n
}

func unpackRuns[T word](b []byte, n int) ([]T, api.Errno) {
	r := bits.From(b)
	l := make([]T, 0, n)
	for len(l) < n {
		v, more := takeValue[T](r), r.Var()
		if more >= uint64(n-len(l)) {
			return nil, api.ErrCodeForm
		}
		l = append(l, slices.Repeat([]T{v}, int(more)+1)...)
	}
	return l, api.OK
}
