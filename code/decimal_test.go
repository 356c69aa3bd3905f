package code_test

import (
	"math/rand"
	"slices"
	"strings"
	"testing"

	"fathom/api"
	"fathom/code"
)

// tenTo tells a power of ten.
func tenTo(n int) int64 {
	k := int64(1)
	for range n {
		k *= 10
	}
	return k
}

// laidAs fails unless a column is laid at p, with so many nothings.
func laidAs[T word](t *testing.T, l []T, p, nothings int) {
	t.Helper()
	b, e := code.Pack(api.CodeDecimal, l)
	if row := rowOfBytes(b); e != api.OK || !strings.HasPrefix(row, rowOf(p, 5)+rowOfVar(uint64(nothings))) {
		t.Fatalf("%x: %s, %d; want p %d and %d nothings", l, row, e, p, nothings)
	}
	packs(t, api.CodeDecimal, l)
}

// P8.1: at each p, whole numbers as great as may be are taken, and greater ones not.
func TestBoundsOfWholes(t *testing.T) { both(t, boundsOfWholes[uint64], boundsOfWholes[uint32]) }

func boundsOfWholes[T word](t *testing.T) {
	digits, most := boundsOf[T]()
	top := tenTo(digits) - 1
	for p := range most + 1 {
		// A value that no lesser p takes.
		own := valueAt[T](1, p)
		for _, k := range []int64{top, -top, top - 1, 1 - top, top/10*10 + 1, tenTo(digits - 1), 1, 2, 3, 7, -1} {
			l := []T{own, valueAt[T](k, p)}
			laidAs(t, l, p, 0)
			lays(t, api.CodeDecimal, l, rowOf(p, 5)+"00000000"+rowOfZig(1)+rowOfZig(k-1))
		}
		for _, k := range []int64{top + 1, -top - 1, top + 2, 10*top + 9, -10*top - 9} {
			l := []T{own, own, valueAt[T](k, p)}
			if _, is := wholeAt(l[2], p); is {
				t.Fatalf("%d at %d is taken by the model", k, p)
			}
			packs(t, api.CodeDecimal, l)
		}
		laidAs(t, []T{own, own, valueAt[T](top+2, p)}, p, 1)
	}
	laidAs(t, []T{valueAt[T](top+1, 0)}, 0, 1)
	laidAs(t, []T{valueAt[T](1, most+1)}, 0, 1)
	laidAs(t, []T{valueAt[T](1, most)}, most, 0)
}

// P8.1: each k has its own float at each p, and a float beside it is none.
func TestWholesAndTheirNeighbours(t *testing.T) {
	both(t, wholesAndTheirNeighbours[uint64], wholesAndTheirNeighbours[uint32])
}

func wholesAndTheirNeighbours[T word](t *testing.T) {
	digits, most := boundsOf[T]()
	rnd := rand.New(rand.NewSource(86))
	for p := range most + 1 {
		own := valueAt[T](1, p)
		l := []T{own, own, own, own, own, own, own}
		for range 400 {
			k := rnd.Int63n(tenTo(1 + rnd.Intn(digits)))
			v := valueAt[T](k, p)
			packs(t, api.CodeDecimal, append(l[:7:7], v, v+1, v-1, v+2))
		}
		for k := tenTo(digits) - 200; k < tenTo(digits)+3; k++ {
			v := valueAt[T](k, p)
			packs(t, api.CodeDecimal, append(l[:7:7], v, v+1, v-1))
		}
	}
}

// P8.1: what is no number at any p: -0, infinities, NaNs, subnormals; +0 is one at each.
func TestNothings(t *testing.T) { both(t, nothings[uint64], nothings[uint32]) }

func nothings[T word](t *testing.T) {
	sign := T(1) << (wideOf[T]() - 1)
	inf := read[T]("inf")
	for _, v := range []T{sign, inf, inf | sign, inf + 1, inf | sign | 1, ^T(0), sign - 1, 1, sign | 1, inf - 1, 2, read[T]("1e-24")} {
		laidAs(t, []T{v}, 0, 1)
		lays(t, api.CodeDecimal, []T{v}, "00000"+"00000001"+"00000000"+rowOfValue(v))
		laidAs(t, []T{v, 0, read[T]("0.5"), v, v}, 1, 3)
		laidAs(t, []T{v, 0, v}, 0, 2)
	}
	laidAs(t, []T{0}, 0, 0)
	laidAs(t, []T{0, read[T]("0.25"), 0}, 2, 0)
	lays(t, api.CodeDecimal, []T{0, read[T]("0.25"), 0}, "00010"+"00000000"+rowOfZig(0)+rowOfZig(25)+rowOfZig(-25))
}

// P8.1: p is the one at which fewest are nothing, of several the least.
func TestWhichPoint(t *testing.T) { both(t, whichPoint[uint64], whichPoint[uint32]) }

func whichPoint[T word](t *testing.T) {
	list := func(texts string) []T {
		l := []T{}
		for _, text := range strings.Fields(texts) {
			l = append(l, read[T](text))
		}
		return l
	}
	laidAs(t, list("1 2 3"), 0, 0)
	laidAs(t, list("1 2.5 3"), 1, 0)
	laidAs(t, list("1 2.5 3.125"), 3, 0)
	laidAs(t, list("10 20 30"), 0, 0)
	laidAs(t, list("nan 0.5 inf 2"), 1, 2)
	laidAs(t, list("-0.5 -0 -1"), 1, 1)
	digits, _ := boundsOf[T]()
	high, low := valueAt[T](tenTo(digits)-1, 0), read[T]("0.1")
	laidAs(t, []T{high, low}, 0, 1)
	laidAs(t, []T{low, high}, 0, 1)
	laidAs(t, []T{low, high, low}, 1, 1)
	laidAs(t, []T{high, low, low, high}, 0, 2)
	laidAs(t, []T{read[T]("0.01"), high, read[T]("0.01"), low}, 2, 1)
	laidAs(t, []T{valueAt[T](tenTo(digits)-1, 2), high, read[T]("1e-10"), read[T]("1e-9")}, 10, 2)
	laidAs(t, []T{valueAt[T](tenTo(digits)-1, 2), high, read[T]("1e-9")}, 0, 2)
}

// P8.1: nothings stand with what is between them, also where a Var takes another group; the others are held against the one of them ahead.
func TestNothingsBetween(t *testing.T) { both(t, nothingsBetween[uint64], nothingsBetween[uint32]) }

func nothingsBetween[T word](t *testing.T) {
	sign := T(1) << (wideOf[T]() - 1)
	lone, one, seven := rowOfValue(sign), read[T]("1"), read[T]("7")
	lays(t, api.CodeDecimal, []T{one, sign, seven, seven, sign, sign, one}, "00000 00000011 00000001"+lone+"00000010"+lone+"00000000"+lone+rowOfZig(1)+rowOfZig(6)+rowOfZig(0)+rowOfZig(-6))
	for _, n := range []int{126, 127, 128, 129, 200, 4000} {
		l := append(slices.Repeat([]T{seven}, n), sign)
		lays(t, api.CodeDecimal, l, "00000 00000001"+rowOfVar(uint64(n))+lone+rowOfZig(7)+strings.Repeat("0", 8*(n-1)))
		laidAs(t, slices.Repeat([]T{sign}, n), 0, n)
		laidAs(t, append(slices.Repeat([]T{sign}, n), one), 0, n)
		laidAs(t, append(append([]T{sign}, l...), one, sign), 0, 3)
	}
}

// P8.1: a whole number that is far from the one ahead.
func TestFarWholes(t *testing.T) { both(t, farWholes[uint64], farWholes[uint32]) }

func farWholes[T word](t *testing.T) {
	digits, _ := boundsOf[T]()
	top := tenTo(digits) - 1
	a, b := valueAt[T](top, 0), valueAt[T](-top, 0)
	lays(t, api.CodeDecimal, []T{a, b, a, 0, b}, "00000 00000000"+rowOfZig(top)+rowOfZig(-2*top)+rowOfZig(2*top)+rowOfZig(-top)+rowOfZig(-top))
}
