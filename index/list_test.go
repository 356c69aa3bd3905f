package index_test

import (
	"cmp"
	"math"
	"math/rand"
	"slices"
	"testing"

	"fathom/index"
)

// wantRising tells whether each item is above all that stand ahead of it.
func wantRising[T cmp.Ordered](l []T) bool {
	for i := range l {
		for k := range i {
			if !(l[i] > l[k]) {
				return false
			}
		}
	}
	return true
}

// wantLists tells what is in both, in one, in the first alone, by asking of each item where it is.
func wantLists[T cmp.Ordered](a, b []T) (and, or, without []T) {
	if !wantRising(a) || !wantRising(b) {
		return nil, nil, nil
	}
	for _, x := range a {
		if has(b, x) {
			and = append(and, x)
		} else {
			without = append(without, x)
		}
	}
	or = slices.Clone(a)
	for _, x := range b {
		if !has(a, x) {
			or = append(or, x)
		}
	}
	slices.Sort(or)
	return and, or, without
}

// putTogether: the calls tell what is said of these two lists.
func putTogether[T cmp.Ordered](t *testing.T, a, b []T) {
	t.Helper()
	if index.Rising(a) != wantRising(a) {
		t.Errorf("Rising(%v): %t", a, !wantRising(a))
	}
	and, or, without := wantLists(a, b)
	what := text(a) + ", " + text(b)
	same(t, "And "+what, index.And(a, b), and)
	same(t, "Or "+what, index.Or(a, b), or)
	same(t, "Without "+what, index.Without(a, b), without)
}

// The chapter's first example.
func TestListExamples(t *testing.T) {
	a, b := []int{1, 3, 5}, []int{3, 4, 5}
	same(t, "And", index.And(a, b), []int{3, 5})
	same(t, "Or", index.Or(a, b), []int{1, 3, 4, 5})
	same(t, "Without", index.Without(a, b), []int{1})
	same(t, "of one that falls", index.And([]int{3, 1}, []int{1}), nil)
	if index.Rising([]int{1, 1}) || !index.Rising([]int{}) || !index.Rising[int](nil) {
		t.Error("Rising")
	}
}

// P14.1: every two lists of up to four items of four.
func TestAllShortLists(t *testing.T) {
	lists := [][]int8{nil}
	for from := 0; len(lists) < 341; {
		until := len(lists)
		for ; from < until; from++ {
			for x := range int8(4) {
				lists = append(lists, append(slices.Clone(lists[from]), x))
			}
		}
	}
	for _, a := range lists {
		for _, b := range lists {
			putTogether(t, a, b)
		}
	}
}

// P14.1: lists of which one, or both, do not rise, at any place: no items, wherever the other one is.
func TestListsThatDoNotRise(t *testing.T) {
	good := []int{0, 2, 4, 6, 8, 10, 12}
	for at := 1; at < len(good); at++ {
		for _, x := range []int{good[at-1], good[at-1] - 1, math.MinInt} {
			bad := slices.Clone(good)
			bad[at] = x
			for _, other := range [][]int{nil, {3}, good, bad, {100}, {-100}} {
				putTogether(t, bad, other)
				putTogether(t, other, bad)
			}
		}
	}
}

type named string

// P14.1: lists of all that has an order, at its ends.
func TestListsOfOthers(t *testing.T) {
	putTogether(t, []int64{math.MinInt64, 0, math.MaxInt64}, []int64{math.MinInt64, math.MaxInt64})
	putTogether(t, []uint64{0, math.MaxUint64}, []uint64{math.MaxUint64})
	putTogether(t, []uint8{0, 255}, []uint8{1, 255})
	putTogether(t, []string{"", "a", "ab", "b"}, []string{"", "\x00", "ab", "\xff"})
	putTogether(t, []string{"b", "a"}, []string{"a"})
	putTogether(t, []named{"a", "b"}, []named{"b", "c"})
	putTogether(t, []float64{math.Inf(-1), -1, 0, math.SmallestNonzeroFloat64, math.Inf(1)}, []float64{math.Inf(-1), 0, math.MaxFloat64})
	putTogether(t, []float32{-1, 2}, []float32{-1, 3})
}

// P14.1: a list with a NaN in it does not rise, wherever it stands; noughts are equal by <; of those that are in both the first list's is told.
func TestListsOfFloats(t *testing.T) {
	nan, below := math.NaN(), math.Copysign(0, -1)
	for _, l := range [][]float64{{nan, 1}, {1, nan}, {1, nan, 2}, {nan, nan}, {below, 0}, {0, below}} {
		putTogether(t, l, []float64{1})
		putTogether(t, []float64{1}, l)
	}
	for _, x := range []float64{below, 0} {
		for _, l := range [][]float64{index.And([]float64{x}, []float64{-x}), index.Or([]float64{x, 1}, []float64{-x})} {
			if len(l) == 0 || l[0] != 0 || math.Signbit(l[0]) != math.Signbit(x) {
				t.Errorf("%v", l)
			}
		}
		same(t, "Without", index.Without([]float64{x}, []float64{-x}), nil)
	}
	for _, b := range [][]float64{nil, {nan}, {1}, {1, 2}} {
		index.And([]float64{nan}, b)
		index.Or(b, []float64{nan})
		index.Without([]float64{nan}, b)
	}
}

// P14.7: the laws of sets.
func TestLawsOfSets(t *testing.T) {
	rnd := rand.New(rand.NewSource(141))
	for range 5000 {
		n := rnd.Intn(12)
		a, b, c := rising(rnd, n), rising(rnd, n), rising(rnd, n)
		putTogether(t, a, b)
		same(t, "And the other way round", index.And(a, b), index.And(b, a))
		same(t, "Or the other way round", index.Or(a, b), index.Or(b, a))
		same(t, "And grouped", index.And(a, index.And(b, c)), index.And(index.And(a, b), c))
		same(t, "Or grouped", index.Or(a, index.Or(b, c)), index.Or(index.Or(a, b), c))
		same(t, "in common", index.And(index.Without(a, b), index.And(a, b)), nil)
		same(t, "again", index.Or(index.Without(a, b), index.And(a, b)), a)
		for _, l := range [][]int{index.And(a, b), index.Or(a, b), index.Without(a, b)} {
			if !index.Rising(l) {
				t.Errorf("%v does not rise", l)
			}
		}
	}
}

// R3: long lists.
func TestLongLists(t *testing.T) {
	var even, third []int
	for x := range 300000 {
		even = append(even, 2*x)
		third = append(third, 3*x)
	}
	and, or, without := index.And(even, third), index.Or(even, third), index.Without(even, third)
	if len(and) != 100000 || len(or) != 500000 || len(without) != 200000 || and[99999] != 599994 || or[499999] != 899997 {
		t.Errorf("%d, %d, %d", len(and), len(or), len(without))
	}
}
