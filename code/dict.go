package code

import (
	"fathom/api"
	"fathom/bits"
)

// dictWide is how many bits say how many unlike values there are, less 1.
const dictWide = 8

func packDict[T word](l []T) ([]byte, api.Errno) {
	unlike, places := dictOf(l)
	if len(unlike) > api.MaxDict {
		return nil, api.ErrCodeNone
	}
	w := &bits.Writer{}
	w.Bits(uint64(len(unlike)-1), dictWide)
	for _, v := range unlike {
		layValue(w, v)
	}
	for _, v := range l {
		w.Bits(uint64(places[v]), placeWide(unlike))
	}
	return w.Done()
}

// dictOf tells the unlike values, in the order in which each comes first, and where each stands among them.
func dictOf[T word](l []T) (unlike []T, places map[T]int) {
	places = map[T]int{}
	for _, v := range l {
		if _, found := places[v]; !found {
			places[v] = len(unlike)
			unlike = append(unlike, v)
		}
	}
	return unlike, places
}

// placeWide tells how many bits hold each place among the unlike values.
func placeWide[T word](unlike []T) int { return length(uint64(len(unlike) - 1)) }

func unpackDict[T word](b []byte, n int) ([]T, api.Errno) {
	r := bits.From(b)
	unlike := make([]T, int(r.Bits(dictWide))+1)
	for i := range unlike {
		unlike[i] = takeValue[T](r)
	}
	l := make([]T, n)
	for i := range l {
		place := int(r.Bits(placeWide(unlike)))
		if place >= len(unlike) {
			return nil, api.ErrCodeForm
		}
		l[i] = unlike[place]
	}
	return l, api.OK
}
