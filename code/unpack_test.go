package code_test

import (
	"bytes"
	"math"
	"math/rand"
	"slices"
	"strings"
	"testing"

	"fathom/api"
	"fathom/code"
)

// P8.2: first the kind is looked at, then n, then the bytes.
func TestUnpackErrors(t *testing.T) { both(t, unpackErrors[uint64], unpackErrors[uint32]) }

func unpackErrors[T word](t *testing.T) {
	inputs := [][]byte{nil, {0}, bytes.Repeat([]byte{0xff}, 100), make([]byte, 1<<16)}
	counts := []int{-1, math.MinInt, math.MinInt32, api.MaxColumn + 1, 1 << 32, math.MaxInt}
	for _, b := range inputs {
		for _, kind := range []int{-1, 0, 7, 8, 256 + 1, 1<<32 + 1, math.MinInt, math.MaxInt} {
			for _, n := range append(counts, 0, 1, api.MaxColumn) {
				refused[T](t, "no such kind", kind, b, n, api.ErrCodeKind)
			}
		}
		for _, kind := range kinds() {
			for _, n := range counts {
				refused[T](t, "a count that may not be", kind, b, n, api.ErrCodeCount)
			}
		}
	}
}

// P8.2: of no values there are no bytes, and of some there are some.
func TestUnpackNone(t *testing.T) { both(t, unpackNone[uint64], unpackNone[uint32]) }

func unpackNone[T word](t *testing.T) {
	for _, kind := range kinds() {
		refused[T](t, "none of none", kind, nil, 0, api.OK)
		refused[T](t, "none of none", kind, []byte{}, 0, api.OK)
		for _, n := range []int{1, 2, api.MaxColumn} {
			refused[T](t, "none of some", kind, nil, n, api.ErrCodeForm)
		}
		for size := 1; size < 20; size++ {
			for _, x := range []byte{0, 1, 0x80, 0xff} {
				refused[T](t, "some of none", kind, bytes.Repeat([]byte{x}, size), 0, api.ErrCodeForm)
			}
		}
	}
}

// P8.2: too few bytes, too many, spare bits of 1, another count.
func TestUnpackWantsAllBytes(t *testing.T) {
	both(t, unpackWantsAllBytes[uint64], unpackWantsAllBytes[uint32])
}

func unpackWantsAllBytes[T word](t *testing.T) {
	for _, l := range samples[T]()[:250] {
		for _, kind := range kinds() {
			row, takes := rowOfColumn(kind, l)
			if !takes {
				continue
			}
			b := bytesOf(row)
			for size := range b {
				judged[T](t, "a beginning", kind, b[:size], len(l))
			}
			for _, more := range [][]byte{{0}, {1}, {0x80}, {0xff}, {0, 0, 0, 0, 0, 0, 0, 0}} {
				refused[T](t, "more behind", kind, append(slices.Clone(b), more...), len(l), api.ErrCodeForm)
			}
			for spare := len(row); spare%8 != 0; spare++ {
				b[spare/8] |= 128 >> (spare % 8)
				refused[T](t, "a spare bit of 1", kind, b, len(l), api.ErrCodeForm)
				b[spare/8] ^= 128 >> (spare % 8)
			}
			for _, n := range []int{len(l) - 1, len(l) + 1, 2 * len(l)} {
				if n >= 0 {
					judged[T](t, "another count", kind, b, n)
				}
			}
		}
	}
}

// P8.2: each way in which bits may be laid otherwise than Pack does.
func TestForms(t *testing.T) { both(t, forms[uint64], forms[uint32]) }

func forms[T word](t *testing.T) {
	a, b, c := rowOfValue(T(7)), rowOfValue(T(9)), rowOfValue(T(0))
	most := uint64(math.MaxUint64)
	many := rowOf(255, 8) + rowOfPlain(rising[T](256))
	ins, out := "", ""
	for i := range 256 {
		ins += rowOf(i, 8)
		out += rowOf(i^1, 8)
	}
	for _, f := range []struct {
		what string
		kind int
		row  string
		n    int
		ok   bool
	}{
		{"one run", api.CodeRuns, a + rowOfVar(2), 3, true},
		{"two runs that are one", api.CodeRuns, a + rowOfVar(1) + a + rowOfVar(0), 3, false},
		{"two runs", api.CodeRuns, a + rowOfVar(1) + b + rowOfVar(0), 3, true},
		{"two runs of noughts", api.CodeRuns, c + rowOfVar(0) + c + rowOfVar(0), 2, false},
		{"a run that is too long", api.CodeRuns, a + rowOfVar(3), 3, false},
		{"a run that is too short", api.CodeRuns, a + rowOfVar(1), 3, false},
		{"a second run that is too long", api.CodeRuns, a + rowOfVar(1) + b + rowOfVar(1), 3, false},
		{"a run of 2^64", api.CodeRuns, a + rowOfVar(most), 3, false},
		{"a second run of 2^64 less 1", api.CodeRuns, a + rowOfVar(0) + b + rowOfVar(most-1), 3, false},
		{"a run of 2^63", api.CodeRuns, a + rowOfVar(1<<63-1), 3, false},
		{"a run whose Var is longer than need be", api.CodeRuns, a + "1000000100000000", 2, false},
		{"a run without a length", api.CodeRuns, a, 1, false},

		{"a list in order", api.CodeDict, rowOf(1, 8) + a + b + "01", 2, true},
		{"a list in another order", api.CodeDict, rowOf(1, 8) + a + b + "10", 2, false},
		{"a value that never comes", api.CodeDict, rowOf(1, 8) + a + b + "00", 2, false},
		{"a last value that never comes", api.CodeDict, rowOf(2, 8) + a + b + c + "0001", 2, false},
		{"a value twice in the list", api.CodeDict, rowOf(1, 8) + a + a + "01", 2, false},
		{"one that comes twice", api.CodeDict, rowOf(1, 8) + a + b + "010", 3, true},
		{"a list of one", api.CodeDict, rowOf(0, 8) + a, 2, true},
		{"a list of one, of as many as may be", api.CodeDict, rowOf(0, 8) + a, api.MaxColumn, true},
		{"a list of one, of none", api.CodeDict, rowOf(0, 8) + a, 0, false},
		{"a list of one, with places", api.CodeDict, rowOf(0, 8) + a + strings.Repeat("0", 8), 8, false},
		{"a place that isn't there", api.CodeDict, rowOf(2, 8) + a + b + c + "000110" + "11", 4, false},
		{"each place that is there", api.CodeDict, rowOf(2, 8) + a + b + c + "000110" + "10", 4, true},
		{"places of too many bits", api.CodeDict, rowOf(1, 8) + a + b + "0001", 2, false},
		{"a list as long as may be", api.CodeDict, many + ins, 256, true},
		{"a list as long as may be, all but one", api.CodeDict, many + ins[:255*8], 255, false},
		{"a list as long as may be, in another order", api.CodeDict, many + out, 256, false},

		{"a rest of 8 bits", api.CodeStride, rowOfZig(127), 1, true},
		{"a rest below nought", api.CodeStride, rowOfZig(-1), 1, true},
		{"a rest too many", api.CodeStride, rowOfZig(1) + rowOfZig(1), 1, false},
		{"a Var that is longer than need be", api.CodeStride, "1000000100000000", 1, false},
		{"a Var of eleven groups", api.CodeStride, strings.Repeat("1", 80) + "00000001", 1, false},
		{"a Var of more than 64 bits", api.CodeStride, strings.Repeat("1", 72) + "00000010", 1, false},
		{"the least rest", api.CodeStride, rowOfZig(restOf(T(1) << (wideOf[T]() - 1))), 1, true},
		{"the greatest rest", api.CodeStride, rowOfZig(restOf(T(1)<<(wideOf[T]()-1) - 1)), 1, true},
		{"the greatest and 1", api.CodeStride, rowOfZig(1 << 31), 1, wideOf[T]() == 64},
		{"the least less 1", api.CodeStride, rowOfZig(-1<<31 - 1), 1, wideOf[T]() == 64},
		{"a rest that is nought modulo 2^32", api.CodeStride, rowOfZig(0) + rowOfZig(1<<32), 2, wideOf[T]() == 64},

		{"two values", api.CodePlain, a + b, 2, true},
		{"two values of three", api.CodePlain, a + b, 3, false},
		{"the first value's bits alone", api.CodeXor, a, 1, true},
		{"a bit too many", api.CodeXor, a + "00000000", 1, false},
		{"a nought in a window", api.CodeXor, a + "11" + strings.Repeat("0", 20), 2, false},
	} {
		if taken := judged[T](t, f.what, f.kind, bytesOf(f.row), f.n); taken != f.ok {
			t.Errorf("%s: %v", f.what, taken)
		}
	}
}

// P8.2: each way in which decimals may be laid otherwise than Pack does.
func TestFormsOfDecimals(t *testing.T) { both(t, formsOfDecimals[uint64], formsOfDecimals[uint32]) }

func formsOfDecimals[T word](t *testing.T) {
	digits, last := boundsOf[T]()
	top := tenTo(digits) - 1
	most := uint64(math.MaxUint64)
	head := func(p int, nothings uint64) string { return rowOf(p, 5) + rowOfVar(nothings) }
	minus, one := rowOfValue(T(1)<<(wideOf[T]()-1)), rowOfValue(read[T]("1"))
	half, long := rowOfValue(read[T]("0.5")), rowOfValue(valueAt[T](top+2, 0))
	for _, f := range []struct {
		what string
		row  string
		n    int
		ok   bool
	}{
		{"whole ones", head(0, 0) + rowOfZig(1) + rowOfZig(1), 2, true},
		{"whole ones at 1", head(1, 0) + rowOfZig(10) + rowOfZig(10), 2, false},
		{"tenths", head(1, 0) + rowOfZig(1) + rowOfZig(9), 2, true},
		{"tenths at 2", head(2, 0) + rowOfZig(10) + rowOfZig(90), 2, false},
		{"at the last p", head(last, 0) + rowOfZig(1), 1, true},
		{"beyond the last p", head(last+1, 0) + rowOfZig(1), 1, false},
		{"beyond the last p, nothing", head(last+1, 1) + rowOfVar(0) + minus, 1, false},
		{"at the greatest number of five bits", head(31, 0) + rowOfZig(1), 1, false},
		{"the greatest k", head(0, 0) + rowOfZig(top), 1, true},
		{"a greater k", head(0, 0) + rowOfZig(top+1), 1, false},
		{"the least k", head(0, 0) + rowOfZig(-top), 1, true},
		{"a lesser k", head(0, 0) + rowOfZig(-top-1), 1, false},
		{"a k beyond the bound, by steps", head(0, 0) + rowOfZig(top) + rowOfZig(1), 2, false},
		{"k beyond and back", head(0, 0) + rowOfZig(top) + rowOfZig(1) + rowOfZig(-1), 3, false},
		{"steps as wide as may be", head(0, 0) + rowOfZig(-top) + rowOfZig(2*top), 2, true},
		{"k beyond 64 bits", head(0, 0) + rowOfZig(math.MaxInt64) + rowOfZig(math.MaxInt64) + rowOfZig(3), 3, false},
		{"k beyond 64 bits in one", head(0, 0) + rowOfZig(1) + rowOfZig(math.MinInt64) + rowOfZig(math.MinInt64), 3, false},
		{"one that is nothing", head(0, 1) + rowOfVar(0) + minus, 1, true},
		{"one that is nothing, at 1", head(1, 1) + rowOfVar(0) + minus, 1, false},
		{"one that is not nothing", head(0, 1) + rowOfVar(0) + one, 1, false},
		{"one that is not nothing, among others", head(0, 1) + rowOfVar(0) + one + rowOfZig(2), 2, false},
		{"one that is nothing here alone", head(0, 1) + rowOfVar(1) + half + rowOfZig(2), 2, false},
		{"one that is nothing at the others' p", head(1, 1) + rowOfVar(1) + long + rowOfZig(1) + rowOfZig(0), 3, true},
		{"one that is nothing at any p, in the end", head(0, 1) + rowOfVar(1) + minus + rowOfZig(2), 2, true},
		{"nothing beyond the end", head(0, 1) + rowOfVar(2) + minus + rowOfZig(2) + rowOfZig(0), 2, false},
		{"nothing 2^64 - 1 on", head(0, 1) + rowOfVar(most) + minus + rowOfZig(2), 2, false},
		{"nothing 2^64 - 2 on, behind another", head(0, 2) + rowOfVar(0) + minus + rowOfVar(most-1) + minus, 2, false},
		{"two that are nothing of one", head(0, 2), 1, false},
		{"two that are nothing of one, laid", head(0, 2) + rowOfVar(0) + minus + rowOfVar(0) + minus, 1, false},
		{"2^64 - 1 that are nothing", head(0, most) + strings.Repeat("0", 800), 5, false},
		{"2^63 that are nothing", head(0, 1<<63) + rowOfVar(0) + minus, 1, false},
		{"fewer than said", head(0, 2) + rowOfVar(0) + minus + rowOfZig(1), 2, false},
		{"none of one", head(0, 0), 1, false},
		{"none of none", head(0, 0), 0, false},
		{"a nought", head(0, 0) + rowOfZig(0), 1, true},
		{"a nought at 1", head(1, 0) + rowOfZig(0), 1, false},
		{"a nought as nothing", head(0, 1) + rowOfVar(0) + rowOfValue(T(0)), 1, false},
		{"a Var that is longer than need be", head(0, 0) + "1000001000000000", 1, false},
		{"so many in a longer Var", rowOf(0, 5) + "1000000000000000" + rowOfZig(1), 1, false},
	} {
		if taken := judged[T](t, f.what, api.CodeDecimal, bytesOf(f.row), f.n); taken != f.ok {
			t.Errorf("%s: %v", f.what, taken)
		}
	}
}

// P8.2, P8.4: what Unpack takes is what Pack tells of it, whichever bit is changed: no values have two forms.
func TestOneForm(t *testing.T) { both(t, oneForm[uint64], oneForm[uint32]) }

func oneForm[T word](t *testing.T) {
	for _, kind := range kinds() {
		taken, missed := 0, 0
		for _, l := range samples[T]()[150:172] {
			b, _ := code.Pack(kind, l)
			for at := range min(8*len(b), 500) {
				c := slices.Clone(b)
				c[at/8] ^= 128 >> (at % 8)
				if !judged[T](t, "a changed bit", kind, c, len(l)) {
					missed++
					continue
				}
				taken++
				if m, _ := code.Unpack[T](kind, c, len(l)); slices.Equal(l, m) {
					t.Fatalf("%x has two forms: %x, %x", l, b, c)
				}
			}
		}
		if taken < 100 || kind != api.CodePlain && missed < 100 {
			t.Errorf("kind %d: %d were taken, %d not", kind, taken, missed)
		}
	}
}

// anyRow tells fields as a kind has them, some of them wrong, of about n values.
func anyRow[T word](rnd *rand.Rand, kind, n int) string {
	few := []T{0, 5, T(1) << (wideOf[T]() - 1), read[T]("0.5"), read[T]("7")}
	any := func() string { return rowOfValue(few[rnd.Intn(len(few))]) }
	row := ""
	switch kind {
	case api.CodeRuns:
		for range 1 + rnd.Intn(n) {
			row += any() + rowOfVar(uint64(rnd.Intn(3)))
		}
	case api.CodeDict:
		size := 1 + rnd.Intn(4)
		row = rowOf(size-1, 8)
		for range size {
			row += any()
		}
		for range n {
			row += rowOf(rnd.Intn(4), []int{0, 1, 2, 2}[size-1]+2)[2:]
		}
	case api.CodeDecimal:
		nothings := rnd.Intn(3)
		row = rowOf(rnd.Intn(4), 5) + rowOfVar(uint64(nothings))
		for range nothings {
			row += rowOfVar(uint64(rnd.Intn(3))) + any()
		}
		for range max(n-nothings, 0) {
			row += rowOfZig(rnd.Int63n(201) - 100)
		}
	default:
		for range n {
			row += rowOfZig(int64(rnd.Uint64()) >> rnd.Intn(64))
		}
	}
	return row
}

// P8.2, P8.4: of fields that may be wrong just what Pack tells is taken.
func TestAnyFields(t *testing.T) { both(t, anyFields[uint64], anyFields[uint32]) }

func anyFields[T word](t *testing.T) {
	rnd := rand.New(rand.NewSource(81))
	for _, kind := range []int{api.CodeRuns, api.CodeDict, api.CodeStride, api.CodeDecimal} {
		taken := 0
		for range 6000 {
			n := 1 + rnd.Intn(5)
			if judged[T](t, "any fields", kind, bytesOf(anyRow[T](rnd, kind, n)), n) {
				taken++
			}
		}
		if taken < 100 {
			t.Errorf("kind %d: only %d were taken", kind, taken)
		}
	}
}

// P8.2, P8.5: whatever the bytes are, Unpack ends, and takes just what Pack tells.
func TestAnyBytes(t *testing.T) { both(t, anyBytes[uint64], anyBytes[uint32]) }

func anyBytes[T word](t *testing.T) {
	rnd := rand.New(rand.NewSource(82))
	for range 4000 {
		b := make([]byte, rnd.Intn(30))
		for i := range b {
			b[i] = []byte{0, 0, 1, 0x7f, 0x80, 0x81, 0xc0, 0xff, byte(rnd.Intn(256))}[rnd.Intn(9)]
		}
		for _, kind := range kinds() {
			judged[T](t, "any bytes", kind, b, rnd.Intn(20))
		}
	}
	for _, kind := range kinds() {
		for _, b := range [][]byte{make([]byte, 1<<20), bytes.Repeat([]byte{0xff}, 1<<20), bytes.Repeat([]byte{0xaa}, 1<<20)} {
			refused[T](t, "many bytes", kind, b, api.MaxColumn, api.ErrCodeForm)
			refused[T](t, "many bytes", kind, b, 3, api.ErrCodeForm)
		}
	}
}

// P8.4: of two columns of as many values no bytes are the same by any kind.
func TestNoTwoHaveTheSameBytes(t *testing.T) {
	both(t, noTwoHaveTheSameBytes[uint64], noTwoHaveTheSameBytes[uint32])
}

func noTwoHaveTheSameBytes[T word](t *testing.T) {
	few := append([]T{0, 1, 2, 3, ^T(0), ^T(0) - 1, read[T]("0.2"), read[T]("0.25"), read[T]("5"), read[T]("-0.5")}, edgeValues[T]()[8:14]...)
	for _, kind := range kinds() {
		seen := map[string][]T{}
		for _, a := range few {
			for _, b := range few {
				for _, c := range few {
					l := []T{a, b, c}
					p, _ := code.Pack(kind, l)
					if other, found := seen[string(p)]; found && !slices.Equal(other, l) {
						t.Fatalf("kind %d: %x and %x: %x", kind, other, l, p)
					}
					seen[string(p)] = l
				}
			}
		}
	}
}
