package code

import (
	"fathom/api"
	"fathom/bits"
)

// pointWide is how many bits say a column's p.
const pointWide = 5

func packDecimal[T word](l []T) ([]byte, api.Errno) {
	s := bestScale(l)
	w := &bits.Writer{}
	w.Bits(uint64(s.p), pointWide)
	layNothings(w, s, l)
	layWholes(w, s, l)
	return w.Done()
}

// layNothings lays the values that are nothing at a scale, and where they stand.
func layNothings[T word](w *bits.Writer, s scale[T], l []T) {
	w.Var(uint64(s.nothings(l)))
	between := uint64(0)
	for _, v := range l {
		if _, is := s.wholeOf(v); is {
			between++
			continue
		}
		w.Var(between)
		layValue(w, v)
		between = 0
	}
}

// layWholes lays all others.
func layWholes[T word](w *bits.Writer, s scale[T], l []T) {
	ahead := int64(0)
	for _, v := range l {
		if k, is := s.wholeOf(v); is {
			w.Zig(k - ahead)
			ahead = k
		}
	}
}

func unpackDecimal[T word](b []byte, n int) ([]T, api.Errno) {
	r := bits.From(b)
	s := scaleAt[T](int(r.Bits(pointWide)))
	l, isNothing, fits := takeNothings[T](r, n)
	if !fits {
		return nil, api.ErrCodeForm
	}
	k := int64(0)
	for i := range l {
		if !isNothing[i] {
			k += r.Zig()
			l[i] = s.valueOf(k)
		}
	}
	return l, api.OK
}

// takeNothings tells n values, of which those that are nothing are laid in, which ones these are, and whether all of them had a place.
func takeNothings[T word](r *bits.Reader, n int) (l []T, isNothing []bool, fit bool) {
	l, isNothing = make([]T, n), make([]bool, n)
	next := 0
	for left := r.Var(); left > 0; left-- {
		between := r.Var()
		if between >= uint64(n-next) {
			return nil, nil, false
		}
		next += int(between)
		l[next], isNothing[next] = takeValue[T](r), true
		next++
	}
	return l, isNothing, true
}
