package pack_test

import (
	"bytes"
	"fmt"
	"math"
	"math/rand"
	"slices"
	"strings"
	"testing"

	"fathom/api"
	"fathom/pack"
)

type word interface{ uint64 | uint32 }

// both runs a test of either width.
func both(t *testing.T, of64, of32 func(t *testing.T)) {
	t.Run("64", of64)
	t.Run("32", of32)
}

// The model: bits are a text of '0' and '1', written by the chapter's words alone.

// shape tells the chapter's W and K.
func shape[T word]() (w, k int) {
	if _, narrow := any(T(0)).(uint32); narrow {
		return 32, 5
	}
	return 64, 6
}

func rowOf[N word | int](x N, n int) string { return fmt.Sprintf("%0*b", n, x) }

// rowOfValue tells a value's W bits.
func rowOfValue[T word](v T) string {
	w, _ := shape[T]()
	return rowOf(v, w)
}

// rowOfWindow tells what stands ahead of the bits in a new window.
func rowOfWindow[T word](lead, length int) string {
	_, k := shape[T]()
	return "11" + rowOf(lead, k) + rowOf(length-1, k)
}

// rowOfColumn tells a column's bits.
func rowOfColumn[T word](l []T) string {
	if len(l) == 0 {
		return ""
	}
	_, k := shape[T]()
	row := &strings.Builder{}
	row.WriteString(rowOfValue(l[0]))
	oldFirst, oldLast, laid := 0, 0, false
	for i := 1; i < len(l); i++ {
		x := rowOfValue(l[i] ^ l[i-1])
		first, last := strings.Index(x, "1"), strings.LastIndex(x, "1")
		length := last - first + 1
		fits := laid && !strings.Contains(x[:oldFirst]+x[oldLast+1:], "1")
		switch {
		case first < 0:
			row.WriteString("0")
		case fits && oldLast-oldFirst+1 <= length+2*k:
			row.WriteString("10" + x[oldFirst:oldLast+1])
		default:
			row.WriteString(rowOfWindow[T](first, length) + x[first:last+1])
			oldFirst, oldLast, laid = first, last, true
		}
	}
	return row.String()
}

// bytesOf tells a row's bytes: the first bit as the highest, noughts in the end.
func bytesOf(row string) []byte {
	b := make([]byte, (len(row)+7)/8)
	for i, c := range row {
		if c == '1' {
			b[i/8] |= 128 >> (i % 8)
		}
	}
	return b
}

// rowOfBytes tells all bits of bytes.
func rowOfBytes(b []byte) string {
	row := &strings.Builder{}
	for _, x := range b {
		fmt.Fprintf(row, "%08b", x)
	}
	return row.String()
}

// scan takes numbers from the front of a row; short: there were too few bits.
type scan struct {
	row   string
	short bool
}

func (s *scan) take(n int) uint64 {
	if n > len(s.row) {
		s.short = true
		return 0
	}
	x := uint64(0)
	for _, c := range s.row[:n] {
		x = 2*x + uint64(c-'0')
	}
	s.row = s.row[n:]
	return x
}

// loose tells the n values that bytes speak of, in whatever windows these lie, and whether there are any: if Pack tells the bytes of some n values, it is of these.
func loose[T word](b []byte, n int) ([]T, bool) {
	w, k := shape[T]()
	s := &scan{row: rowOfBytes(b)}
	l := []T{}
	lead, length := 0, 0
	for i := range n {
		if i == 0 {
			l = append(l, T(s.take(w)))
			continue
		}
		x := T(0)
		if s.take(1) == 1 {
			if s.take(1) == 1 {
				lead = int(s.take(k))
				length = int(s.take(k)) + 1
			}
			if length == 0 || lead+length > w {
				return nil, false
			}
			x = T(s.take(length)) << (w - lead - length)
		}
		l = append(l, l[i-1]^x)
	}
	return l, !s.short
}

// packed tells the n values of which bytes are those that the model packs, if there are any.
func packed[T word](b []byte, n int) ([]T, bool) {
	l, ok := loose[T](b, n)
	if !ok || !bytes.Equal(bytesOf(rowOfColumn(l)), b) {
		return nil, false
	}
	return l, true
}

// windowed tells a value with ones at the ends of a window, none outside, and these bits within.
func windowed[T word](lead, length int, within T) T {
	w, _ := shape[T]()
	ends := T(1)<<(length-1) | 1
	inside := within & (T(1)<<(length-1) - 1)
	return (ends | inside) << (w - lead - length)
}

// anyWindowed tells values with windows of all leads and lengths.
func anyWindowed[T word](rnd *rand.Rand) T {
	w, _ := shape[T]()
	lead := rnd.Intn(w)
	return windowed(lead, 1+rnd.Intn(w-lead), T(rnd.Uint64()))
}

// edgeValues are values of all sorts of floats, and bits at the ends.
func edgeValues[T word]() []T {
	w, _ := shape[T]()
	fraction, one := 52, math.Float64bits(1)
	if w == 32 {
		fraction, one = 23, uint64(math.Float32bits(1))
	}
	sign := T(1) << (w - 1)
	inf := sign - T(1)<<fraction
	quiet := T(1) << (fraction - 1)
	l := []T{0, 1, 2, 3, T(one), T(one) + 1, inf - 1, inf, inf | 1, inf | quiet, inf | quiet | 5, inf | (quiet - 1)}
	for _, v := range slices.Clone(l) {
		l = append(l, v|sign)
	}
	return append(l, ^T(0), ^T(0)-1, T(1)<<fraction, T(1)<<fraction-1)
}

// anyColumn tells n values: alike but for a few bits, of some values again and again, with windows of all sorts, of any bits, or floats at equal distances.
func anyColumn[T word](rnd *rand.Rand, n int) []T {
	w, _ := shape[T]()
	kind, near, edges := rnd.Intn(6), anyWindowed[T](rnd), edgeValues[T]()
	x, step := rnd.NormFloat64()*100, math.Floor(rnd.Float64()*64)/8
	v := T(rnd.Uint64())
	l := []T{}
	for range n {
		l = append(l, v)
		switch kind {
		case 0:
			v ^= near & T(rnd.Uint64()&rnd.Uint64())
		case 1:
			v = edges[rnd.Intn(len(edges))]
		case 2:
			v ^= anyWindowed[T](rnd)
		case 3:
			v = T(rnd.Uint64())
		case 4:
			x += step
			v = T(math.Float64bits(x) >> (64 - w))
		case 5:
			v ^= []T{0, 0, 0, near, near & -near, 1}[rnd.Intn(6)]
		}
	}
	return l
}

// samples are columns of all sorts.
func samples[T word]() [][]T {
	edges := edgeValues[T]()
	l := [][]T{nil, {}, {0, 0}, {0, 1}, {1, 0}, {0, ^T(0)}, {^T(0), 0, ^T(0)}, {5, 5, 5, 5, 5, 5, 5, 5, 5}, edges}
	for _, v := range edges {
		l = append(l, []T{v}, []T{v, ^v}, []T{v, v, ^v, v})
	}
	rnd := rand.New(rand.NewSource(7))
	for range 3000 {
		l = append(l, anyColumn[T](rnd, 1+rnd.Intn(40)))
	}
	for range 12 {
		l = append(l, anyColumn[T](rnd, api.MaxColumn))
	}
	return l
}

// packs fails unless Pack tells the model's bytes, and Unpack the values again.
func packs[T word](t *testing.T, l []T) {
	t.Helper()
	want := bytesOf(rowOfColumn(l))
	if b, e := pack.Pack(l); e != api.OK || !bytes.Equal(b, want) {
		t.Fatalf("Pack(%x): %x, %d; want %x", l, b, e, want)
	}
	unpacks(t, "what Pack tells", want, l)
}

// unpacks fails unless Unpack tells these values.
func unpacks[T word](t *testing.T, what string, b []byte, l []T) {
	t.Helper()
	if m, e := pack.Unpack[T](b, len(l)); e != api.OK || !slices.Equal(l, m) {
		t.Fatalf("%s: Unpack(%x, %d): %x, %d; want %x", what, b, len(l), m, e, l)
	}
}

// refused fails unless Unpack tells this error and nothing else.
func refused[T word](t *testing.T, what string, b []byte, n int, want api.Errno) {
	t.Helper()
	if l, e := pack.Unpack[T](b, n); e != want || len(l) != 0 {
		t.Fatalf("%s: Unpack(%x, %d): %x, %d; want error %d", what, b, n, l, e, want)
	}
}

// judged fails unless Unpack takes just what the model packs; it tells whether it was taken.
func judged[T word](t *testing.T, what string, b []byte, n int) bool {
	t.Helper()
	l, ok := packed[T](b, n)
	if !ok {
		refused[T](t, what, b, n, api.ErrPackForm)
		return false
	}
	unpacks(t, what, b, l)
	if again, e := pack.Pack(l); e != api.OK || !bytes.Equal(again, b) {
		t.Fatalf("%s: of %x: %x, of these %x, %d", what, b, l, again, e)
	}
	return true
}
