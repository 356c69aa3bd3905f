package code_test

import (
	"bytes"
	"fmt"
	"math"
	"slices"
	"strconv"
	"strings"
	"testing"

	"fathom/api"
	"fathom/code"
	"fathom/pack"
)

type word interface{ uint64 | uint32 }

// both runs a test of either width.
func both(t *testing.T, of64, of32 func(t *testing.T)) {
	t.Run("64", of64)
	t.Run("32", of32)
}

// The model: bits are a text of '0' and '1', written by the chapter's words alone.

// kinds are the six.
func kinds() []int { return []int{1, 2, 3, 4, 5, 6} }

// wideOf tells the chapter's W.
func wideOf[T word]() int {
	if _, narrow := any(T(0)).(uint32); narrow {
		return 32
	}
	return 64
}

// boundsOf tells how many digits a k has at most, and the greatest p.
func boundsOf[T word]() (digits, most int) {
	if wideOf[T]() == 32 {
		return 6, 10
	}
	return 15, 22
}

func rowOf[N word | int](x N, n int) string {
	if n == 0 {
		return ""
	}
	return fmt.Sprintf("%0*b", n, x)
}

// rowOfValue tells a value's W bits.
func rowOfValue[T word](v T) string { return rowOf(v, wideOf[T]()) }

func rowOfVar(x uint64) string {
	row := ""
	for ; x >= 128; x /= 128 {
		row += "1" + rowOf(x%128, 7)
	}
	return row + "0" + rowOf(x, 7)
}

func rowOfZig(x int64) string { return rowOfVar(uint64(x)<<1 ^ uint64(x>>63)) }

// rowOfColumn tells a column's bits by a kind, or false, if it doesn't take them.
func rowOfColumn[T word](kind int, l []T) (string, bool) {
	if len(l) == 0 {
		return "", true
	}
	switch kind {
	case api.CodePlain:
		return rowOfPlain(l), true
	case api.CodeXor:
		b, _ := pack.Pack(l)
		return rowOfBytes(b), true
	case api.CodeRuns:
		return rowOfRuns(l), true
	case api.CodeDict:
		return rowOfDict(l)
	case api.CodeStride:
		return rowOfStride(l), true
	}
	return rowOfDecimal(l), true
}

func rowOfPlain[T word](l []T) string {
	row := &strings.Builder{}
	for _, v := range l {
		row.WriteString(rowOfValue(v))
	}
	return row.String()
}

func rowOfRuns[T word](l []T) string {
	row := &strings.Builder{}
	more := 0
	for i, v := range l {
		if i+1 < len(l) && l[i+1] == v {
			more++
			continue
		}
		row.WriteString(rowOfValue(v) + rowOfVar(uint64(more)))
		more = 0
	}
	return row.String()
}

func rowOfDict[T word](l []T) (string, bool) {
	unlike := []T{}
	for _, v := range l {
		if !slices.Contains(unlike, v) {
			unlike = append(unlike, v)
		}
		if len(unlike) > 256 {
			return "", false
		}
	}
	wide := 0
	for 1<<wide < len(unlike) {
		wide++
	}
	row := &strings.Builder{}
	row.WriteString(rowOf(len(unlike)-1, 8) + rowOfPlain(unlike))
	for _, v := range l {
		row.WriteString(rowOf(slices.Index(unlike, v), wide))
	}
	return row.String(), true
}

func rowOfStride[T word](l []T) string {
	row := &strings.Builder{}
	for i, v := range l {
		row.WriteString(rowOfZig(restOf(v - guess(l[:i]))))
	}
	return row.String()
}

// restOf reads a rest as a signed number of W bits.
func restOf[T word](v T) int64 {
	if wideOf[T]() == 32 && v >= 1<<31 {
		return int64(v) - 1<<32
	}
	return int64(v)
}

// guess tells what is expected behind some values.
func guess[T word](l []T) T {
	switch len(l) {
	case 0:
		return 0
	case 1:
		return l[0]
	}
	return l[len(l)-1] + (l[len(l)-1] - l[len(l)-2])
}

// numberOf tells a value as a float64, exactly, if it is no NaN.
func numberOf[T word](v T) float64 {
	if wideOf[T]() == 32 {
		return float64(math.Float32frombits(uint32(v)))
	}
	return math.Float64frombits(uint64(v))
}

// read tells the nearest float of a decimal's text.
func read[T word](text string) T {
	x, _ := strconv.ParseFloat(text, wideOf[T]())
	if wideOf[T]() == 32 {
		return T(math.Float32bits(float32(x)))
	}
	return T(math.Float64bits(x))
}

// valueAt tells the float that k / 10^p tells.
func valueAt[T word](k int64, p int) T { return read[T](fmt.Sprintf("%de-%d", k, p)) }

// wholeAt tells which k a value is at p, if it is one: by the library's texts of the exact number.
func wholeAt[T word](v T, p int) (int64, bool) {
	x := numberOf(v)
	if math.IsNaN(x) || math.IsInf(x, 0) || x == 0 && math.Signbit(x) {
		return 0, false
	}
	text := strconv.FormatFloat(x, 'f', p, 64)
	figures := strings.TrimLeft(strings.Replace(strings.TrimPrefix(text, "-"), ".", "", 1), "0")
	if digits, _ := boundsOf[T](); len(figures) > digits || read[T](text) != v {
		return 0, false
	}
	k, _ := strconv.ParseInt("0"+figures, 10, 64)
	if x < 0 {
		k = -k
	}
	return k, true
}

// nothingsAt tells how many values are nothing at p.
func nothingsAt[T word](l []T, p int) int {
	n := 0
	for _, v := range l {
		if _, is := wholeAt(v, p); !is {
			n++
		}
	}
	return n
}

// pointOf tells a column's p.
func pointOf[T word](l []T) int {
	_, most := boundsOf[T]()
	best := 0
	fewest := nothingsAt(l, 0)
	for p := 1; p <= most; p++ {
		if n := nothingsAt(l, p); n < fewest {
			best, fewest = p, n
		}
	}
	return best
}

func rowOfDecimal[T word](l []T) string {
	p := pointOf(l)
	nothing, whole := &strings.Builder{}, &strings.Builder{}
	between, ahead := 0, int64(0)
	for _, v := range l {
		k, is := wholeAt(v, p)
		if !is {
			nothing.WriteString(rowOfVar(uint64(between)) + rowOfValue(v))
			between = 0
			continue
		}
		whole.WriteString(rowOfZig(k - ahead))
		between, ahead = between+1, k
	}
	return rowOf(p, 5) + rowOfVar(uint64(nothingsAt(l, p))) + nothing.String() + whole.String()
}

// bytesOf tells a row's bytes: the first bit as the highest, noughts in the end.
func bytesOf(row string) []byte {
	b := make([]byte, (len(row)+7)/8)
	for i, c := range row {
		if c == '1' {
			b[i/8] |= 128 >> (i % 8)
		}
	}
	return b
}

// rowOfBytes tells all bits of bytes.
func rowOfBytes(b []byte) string {
	row := &strings.Builder{}
	for _, x := range b {
		fmt.Fprintf(row, "%08b", x)
	}
	return row.String()
}

// packs fails unless Pack tells the model's bytes, and Unpack the values again; or, where the model has none, ErrCodeNone.
func packs[T word](t *testing.T, kind int, l []T) {
	t.Helper()
	row, takes := rowOfColumn(kind, l)
	b, e := code.Pack(kind, l)
	if !takes {
		if len(b) != 0 || e != api.ErrCodeNone {
			t.Fatalf("Pack(%d, %x): %x, %d; want %d", kind, l, b, e, api.ErrCodeNone)
		}
		return
	}
	if want := bytesOf(row); e != api.OK || !bytes.Equal(b, want) {
		t.Fatalf("Pack(%d, %x): %x, %d; want %x", kind, l, b, e, want)
	}
	unpacks(t, "what Pack tells", kind, b, l)
}

// lays fails unless Pack tells the bytes of this row, and Unpack the values again.
func lays[T word](t *testing.T, kind int, l []T, row string) {
	t.Helper()
	want := bytesOf(strings.ReplaceAll(row, " ", ""))
	if b, e := code.Pack(kind, l); e != api.OK || !bytes.Equal(b, want) {
		t.Fatalf("Pack(%d, %x): %x, %d; want %x", kind, l, b, e, want)
	}
	packs(t, kind, l)
}

// unpacks fails unless Unpack tells these values.
func unpacks[T word](t *testing.T, what string, kind int, b []byte, l []T) {
	t.Helper()
	if m, e := code.Unpack[T](kind, b, len(l)); e != api.OK || !slices.Equal(l, m) {
		t.Fatalf("%s: Unpack(%d, %x, %d): %x, %d; want %x", what, kind, b, len(l), m, e, l)
	}
}

// refused fails unless Unpack tells this error and nothing else.
func refused[T word](t *testing.T, what string, kind int, b []byte, n int, want api.Errno) {
	t.Helper()
	if l, e := code.Unpack[T](kind, b, n); e != want || len(l) != 0 {
		t.Fatalf("%s: Unpack(%d, %x, %d): %x, %d; want error %d", what, kind, b, n, l, e, want)
	}
}
