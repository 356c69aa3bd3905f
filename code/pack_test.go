package code_test

import (
	"math"
	"slices"
	"strings"
	"testing"

	"fathom/api"
	"fathom/code"
)

// The chapter's examples 1 to 4, written out by hand.
func TestExamples(t *testing.T) {
	zigs := func(l ...int64) string {
		row := ""
		for _, x := range l {
			row += rowOfZig(x)
		}
		return row
	}
	narrow := []uint32{0x3fc00000, 0x40200000, 0x40100000}
	lays(t, api.CodeDecimal, narrow, "00010 00000000"+"10101100 00000010"+"11001000 00000001"+"00110001")
	lays(t, api.CodePlain, narrow, "0011111111 0000000000000000000000 0100000000100000 0000000000000000 0100000000010000 0000000000000000")
	minus := uint64(1) << 63
	wide := []uint64{math.Float64bits(0.1), math.Float64bits(0.2), minus, math.Float64bits(0.3)}
	lays(t, api.CodeDecimal, wide, "00001 00000001 00000010 1"+strings.Repeat("0", 63)+"00000010 00000010 00000010")
	sevens := []uint64{7, 7, 7, 9}
	lays(t, api.CodeRuns, sevens, rowOfValue(uint64(7))+"00000010"+rowOfValue(uint64(9))+"00000000")
	lays(t, api.CodeDict, sevens, "00000001"+rowOfValue(uint64(7))+rowOfValue(uint64(9))+"0001")
	lays(t, api.CodeStride, []uint64{10, 20, 30, 41}, "00010100 00010100 00000000 00000010")
	lays(t, api.CodeStride, []uint64{10, 20, 30, 41}, zigs(10, 10, 0, 1))
}

// The chapter's examples 5 and 6, as far as Pack tells them.
func TestExamplesOfPack(t *testing.T) {
	lays(t, api.CodePlain, []uint64{5}, rowOfValue(uint64(5)))
	lays(t, api.CodeStride, []uint64{0}, "00000000")
	for _, kind := range []int{0, 7} {
		if b, e := code.Pack(kind, []uint64{1}); len(b) != 0 || e != api.ErrCodeKind {
			t.Errorf("Pack(%d): %x, %d", kind, b, e)
		}
	}
	large := math.Float64bits(1e22)
	lays(t, api.CodeDecimal, []uint64{large}, "00000 00000001 00000000"+rowOfValue(large))
	lays(t, api.CodeDecimal, []uint64{1}, "00000 00000001 00000000"+rowOfValue(uint64(1)))
}

// P8.1, P8.2, P8.4: the chapter's bits, by each kind, there and back.
func TestPackLaysTheBits(t *testing.T) { both(t, packLaysTheBits[uint64], packLaysTheBits[uint32]) }

func packLaysTheBits[T word](t *testing.T) {
	for _, l := range samples[T]() {
		for _, kind := range kinds() {
			packs(t, kind, l)
		}
	}
	for _, a := range edgeValues[T]() {
		for _, b := range edgeValues[T]() {
			for _, kind := range kinds() {
				packs(t, kind, []T{a, b, a})
			}
		}
	}
}

// P8.1: first the kind is looked at, then how many there are, then whether the coding takes them.
func TestPackErrors(t *testing.T) { both(t, packErrors[uint64], packErrors[uint32]) }

func packErrors[T word](t *testing.T) {
	for _, kind := range []int{-1, 0, 7, 8, 256 + 1, 1<<32 + 1, math.MinInt, math.MaxInt} {
		for _, l := range [][]T{nil, {5}, rising[T](300), make([]T, api.MaxColumn+1)} {
			if b, e := code.Pack(kind, l); len(b) != 0 || e != api.ErrCodeKind {
				t.Errorf("Pack(%d) of %d: %x, %d", kind, len(l), b, e)
			}
		}
	}
	for _, kind := range kinds() {
		for _, l := range [][]T{make([]T, api.MaxColumn+1), rising[T](api.MaxColumn + 1), make([]T, 1<<20)} {
			if b, e := code.Pack(kind, l); len(b) != 0 || e != api.ErrCodeCount {
				t.Errorf("Pack(%d) of %d: %x, %d", kind, len(l), b, e)
			}
		}
	}
}

// P8.1: as many as may be, and none, are taken by each kind; of none there are no bits.
func TestPackCounts(t *testing.T) { both(t, packCounts[uint64], packCounts[uint32]) }

func packCounts[T word](t *testing.T) {
	for _, kind := range kinds() {
		packs(t, kind, make([]T, api.MaxColumn))
		packs(t, kind, rising[T](api.MaxColumn))
		packs(t, kind, slices.Repeat(rising[T](256), api.MaxColumn/256))
		packs(t, kind, make([]T, api.MaxColumn-1))
		for _, none := range [][]T{nil, {}} {
			if b, e := code.Pack(kind, none); len(b) != 0 || e != api.OK {
				t.Errorf("Pack(%d) of none: %x, %d", kind, b, e)
			}
		}
	}
}

// P8.1: rows of equal values, as long as may be, and where a Var takes another group.
func TestRuns(t *testing.T) { both(t, runs[uint64], runs[uint32]) }

func runs[T word](t *testing.T) {
	for _, n := range []int{1, 2, 127, 128, 129, 130, 1000, api.MaxColumn} {
		for _, v := range edgeValues[T]() {
			lays(t, api.CodeRuns, slices.Repeat([]T{v}, n), rowOfValue(v)+rowOfVar(uint64(n-1)))
		}
	}
	a, b := rowOfValue(T(5)), rowOfValue(T(6))
	lays(t, api.CodeRuns, []T{5, 6, 5, 5, 6, 6, 6}, a+"00000000"+b+"00000000"+a+"00000001"+b+"00000010")
	minus := T(1) << (wideOf[T]() - 1)
	lays(t, api.CodeRuns, []T{0, minus, minus}, rowOfValue(T(0))+"00000000"+rowOfValue(minus)+"00000001")
}

// P8.1: a dictionary of each size there is, and one that is too large.
func TestDict(t *testing.T) { both(t, dict[uint64], dict[uint32]) }

func dict[T word](t *testing.T) {
	w := wideOf[T]()
	for n := 1; n <= api.MaxDict; n++ {
		unlike := rising[T](n)
		slices.Reverse(unlike)
		packs(t, api.CodeDict, unlike)
		packs(t, api.CodeDict, append(unlike, unlike...))
		places := 0
		for 1<<places < n {
			places++
		}
		if b, _ := code.Pack(api.CodeDict, unlike); len(b) != (8+n*w+n*places+7)/8 {
			t.Errorf("%d unlike ones: %d bytes", n, len(b))
		}
	}
	many := rising[T](api.MaxDict + 1)
	for _, l := range [][]T{many, append(slices.Repeat(many[:api.MaxDict], 3), many...), rising[T](api.MaxColumn)} {
		if b, e := code.Pack(api.CodeDict, l); len(b) != 0 || e != api.ErrCodeNone {
			t.Errorf("too many unlike ones: %x, %d", b, e)
		}
	}
	lays(t, api.CodeDict, []T{9, 2, 9, 5, 2}, "00000010"+rowOfValue(T(9))+rowOfValue(T(2))+rowOfValue(T(5))+"00 01 00 10 01")
	lays(t, api.CodeDict, []T{9, 9, 9}, "00000000"+rowOfValue(T(9)))
}

// P8.1: rests are reckoned modulo 2^W, and read as signed numbers.
func TestStride(t *testing.T) { both(t, stride[uint64], stride[uint32]) }

func stride[T word](t *testing.T) {
	half, most := T(1)<<(wideOf[T]()-1), ^T(0)
	for _, c := range []struct {
		l     []T
		rests []int64
	}{
		{[]T{0}, []int64{0}},
		{[]T{5, 5, 5, 5}, []int64{5, 0, 0, 0}},
		{[]T{5, 7, 9, 11}, []int64{5, 2, 0, 0}},
		{[]T{7, 5, 3, 1, most}, []int64{7, -2, 0, 0, 0}},
		{[]T{most}, []int64{-1}},
		{[]T{half - 1}, []int64{restOf(half - 1)}},
		{[]T{half}, []int64{restOf(half)}},
		{[]T{0, half}, []int64{0, restOf(half)}},
		{[]T{0, half, 0}, []int64{0, restOf(half), 0}},
		{[]T{0, half - 1, half - 1}, []int64{0, restOf(half - 1), -restOf(half - 1)}},
		{[]T{most, 0, 1, 2}, []int64{-1, 1, 0, 0}},
		{[]T{most - 1, most, 0}, []int64{-2, 1, 0}},
		{[]T{1, 2, 4, 7, 11}, []int64{1, 1, 1, 1, 1}},
	} {
		row := ""
		for _, x := range c.rests {
			row += rowOfZig(x)
		}
		lays(t, api.CodeStride, c.l, row)
	}
}

// P8.4: by CodeStride a column to whose values the same is added has the same bits behind the first value's.
func TestStrideAdded(t *testing.T) { both(t, strideAdded[uint64], strideAdded[uint32]) }

func strideAdded[T word](t *testing.T) {
	for _, l := range samples[T]() {
		if len(l) == 0 {
			continue
		}
		b, _ := code.Pack(api.CodeStride, l)
		for _, more := range []T{1, ^T(0), T(1) << (wideOf[T]() - 1), -l[0], 12345} {
			c, e := code.Pack(api.CodeStride, mapped(l, func(v T) T { return v + more }))
			behind, behindThat := len(rowOfStride(l[:1]))/8, len(rowOfStride([]T{l[0] + more}))/8
			if e != api.OK || !slices.Equal(b[behind:], c[behindThat:]) {
				t.Fatalf("%x, %x more: %x, %d, not as %x", l, more, c, e, b)
			}
		}
	}
}

// P8.4: the other way round, or changed by the same bits, a column has as many bytes by some kinds.
func TestAsManyBytes(t *testing.T) { both(t, asManyBytes[uint64], asManyBytes[uint32]) }

func asManyBytes[T word](t *testing.T) {
	for _, l := range samples[T]() {
		round := slices.Clone(l)
		slices.Reverse(round)
		sizes, _ := code.Sizes(l)
		other, _ := code.Sizes(round)
		for _, kind := range []int{api.CodePlain, api.CodeRuns, api.CodeDict} {
			if sizes[kind-1] != other[kind-1] {
				t.Fatalf("%x the other way round: %d, not %d", l, other, sizes)
			}
		}
		for _, by := range []T{1, ^T(0), T(1) << (wideOf[T]() - 1), ^T(0) / 3} {
			other, _ := code.Sizes(mapped(l, func(v T) T { return v ^ by }))
			if !slices.Equal(sizes[:api.CodeDict], other[:api.CodeDict]) {
				t.Fatalf("%x changed by %x: %d, not %d", l, by, other, sizes)
			}
		}
	}
}
