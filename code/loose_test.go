package code_test

import (
	"bytes"
	"testing"

	"fathom/api"
	"fathom/code"
	"fathom/pack"
)

// scan takes numbers from the front of a row; what isn't there, or can't be, leaves it failed.
type scan struct {
	row    string
	failed bool
}

func (s *scan) bits(n int) uint64 {
	if n > len(s.row) {
		s.failed = true
		return 0
	}
	x := uint64(0)
	for _, c := range s.row[:n] {
		x = 2*x + uint64(c-'0')
	}
	s.row = s.row[n:]
	return x
}

func (s *scan) number() uint64 {
	x := uint64(0)
	for group := range 10 {
		more := s.bits(1)
		x |= s.bits(7) << (7 * group)
		if more == 0 {
			return x
		}
	}
	s.failed = true
	return 0
}

func (s *scan) zig() int64 {
	x := s.number()
	return int64(x>>1) ^ -int64(x&1)
}

// loose tells the n values that bytes speak of by a kind, in whatever form, and whether there are any: if Pack tells the bytes of some n values, it is of these.
func loose[T word](kind int, b []byte, n int) ([]T, bool) {
	if kind == api.CodeXor {
		l, e := pack.Unpack[T](b, n)
		return l, e == api.OK
	}
	s := &scan{row: rowOfBytes(b)}
	l := make([]T, 0, n)
	switch {
	case n == 0:
	case kind == api.CodePlain:
		for range n {
			l = append(l, T(s.bits(wideOf[T]())))
		}
	case kind == api.CodeRuns:
		for len(l) < n && !s.failed {
			v, more := T(s.bits(wideOf[T]())), s.number()
			for range min(more, uint64(n)) + 1 {
				l = append(l, v)
			}
		}
	case kind == api.CodeDict:
		l = looseDict[T](s, n)
	case kind == api.CodeStride:
		for range n {
			l = append(l, guess(l)+T(s.zig()))
		}
	default:
		l = looseDecimal[T](s, n)
	}
	return l, !s.failed && len(l) == n
}

func looseDict[T word](s *scan, n int) []T {
	count := int(s.bits(8)) + 1
	unlike := make([]T, 256)
	for i := range count {
		unlike[i] = T(s.bits(wideOf[T]()))
	}
	wide := 0
	for 1<<wide < count {
		wide++
	}
	l := []T{}
	for range n {
		l = append(l, unlike[s.bits(wide)])
	}
	return l
}

func looseDecimal[T word](s *scan, n int) []T {
	p := int(s.bits(5))
	nothings := map[int]T{}
	at := 0
	for left := s.number(); left > 0 && at < n; left-- {
		at += int(min(s.number(), uint64(n)))
		nothings[at] = T(s.bits(wideOf[T]()))
		at++
	}
	l := []T{}
	k := int64(0)
	for i := range n {
		v, is := nothings[i]
		if !is {
			k += s.zig()
			v = valueAt[T](k, p)
		}
		l = append(l, v)
	}
	return l
}

// packed tells the n values of which bytes are those that the model packs, if there are any.
func packed[T word](kind int, b []byte, n int) ([]T, bool) {
	l, ok := loose[T](kind, b, n)
	if !ok {
		return nil, false
	}
	row, takes := rowOfColumn(kind, l)
	return l, takes && bytes.Equal(bytesOf(row), b)
}

// judged fails unless Unpack takes just what the model packs; it tells whether it was taken.
func judged[T word](t *testing.T, what string, kind int, b []byte, n int) bool {
	t.Helper()
	l, ok := packed[T](kind, b, n)
	if !ok {
		refused[T](t, what, kind, b, n, api.ErrCodeForm)
		return false
	}
	unpacks(t, what, kind, b, l)
	if again, e := code.Pack(kind, l); e != api.OK || !bytes.Equal(again, b) {
		t.Fatalf("%s: of %x: %x, of these %x, %d", what, b, l, again, e)
	}
	return true
}
