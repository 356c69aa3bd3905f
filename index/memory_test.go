package index_test

import (
	"slices"
	"testing"

	"fathom/api"
	"fathom/index"
)

// roomy tells a list with an item behind its length that must be neither read nor written.
func roomy[A any](l []A, behind A) []A {
	return append(slices.Clone(l), behind)[:len(l)]
}

// behind tells that item.
func behind[A any](l []A) A { return l[:len(l)+1][len(l)] }

// fill writes all over a list, its spare room too.
func fill[A any](l []A, x A) {
	l = l[:cap(l)]
	for i := range l {
		l[i] = x
	}
}

// P14.9, R2: lists that are put together stay as they are, also behind their lengths; what is told is new, also where it has all items of one of them.
func TestListsStay(t *testing.T) {
	calls := []func(a, b []int) []int{index.And[int], index.Or[int], index.Without[int]}
	for _, c := range [][2][]int{{{1, 3}, {2, 3}}, {{1, 3}, nil}, {nil, {1, 3}}, {{1, 3}, {1, 3}}, {{1, 3}, {5}}, {{3, 1}, {1}}} {
		for n, call := range calls {
			a, b := roomy(c[0], 4), roomy(c[1], 9)
			l := call(a, b)
			fill(l, 77)
			fill(call(a, b), 78)
			if !slices.Equal(a, c[0]) || !slices.Equal(b, c[1]) || behind(a) != 4 || behind(b) != 9 {
				t.Errorf("%d: %v, %v have become %v, %v", n, c[0], c[1], a, b)
			}
			for _, x := range l {
				if x != 77 {
					t.Errorf("%d: two answers share memory", n)
				}
			}
		}
	}
	if !index.Rising(roomy([]int{1, 2}, 0)) {
		t.Error("what lies behind has been read")
	}
}

// R2: labels that are handed in are neither changed nor kept.
func TestLabelsStay(t *testing.T) {
	x := index.New()
	given := list("b", "x", "a", "y", "c", "")
	mine := roomy(given, api.Label{Name: "zz", Value: "behind"})
	if e := x.Add(5, mine); e != api.OK {
		t.Fatal(e)
	}
	if id, there := x.Of(mine); id != 5 || !there {
		t.Errorf("Of: %d, %t", id, there)
	}
	if !slices.Equal(mine, given) || behind(mine).Name != "zz" {
		t.Errorf("they have become %v", mine[:4])
	}
	before := told(x)
	fill(mine, api.Label{Name: "q", Value: "spoilt"})
	if told(x) != before {
		t.Errorf("they are kept: %s", told(x))
	}
}

// R2: so are matchers and their words.
func TestMatchersStay(t *testing.T) {
	x := example(t)
	words := roomy([]string{"x", "y"}, "")
	m := roomy([]api.Matcher{{Kind: api.MatchOneOf, Name: "a", Words: words}, begins("b", "")}, equal("a", "none"))
	finds(t, x, []uint64{3, 7}, m...)
	if !slices.Equal(words, []string{"x", "y"}) || behind(words) != "" || text(m[0]) != text(oneOf("a", "x", "y")) || text(behind(m)) != text(equal("a", "none")) {
		t.Errorf("they have become %s, %s", text(m), words)
	}
}

// R2: whoever writes into what is told, or appends to it, changes nothing that the index, or a snapshot, tells.
func TestAnswersAreNew(t *testing.T) {
	x := example(t)
	adds(t, x, 11, "a", "x", "b", "y", "c", "z")
	s := x.Snapshot()
	before := told(x)
	for range 2 {
		for _, m := range [][]api.Matcher{nil, {equal("a", "x")}, {begins("a", "")}, {unlike("c", "z")}, {equal("c", "")}, {oneOf("a", "x")}, {equal("a", "x"), equal("a", "x")}} {
			fill(found(t, x, m...), 77)
			fill(found(t, s, m...), 78)
		}
		for _, id := range []uint64{3, 7, 9, 11} {
			l, _ := x.Labels(id)
			fill(l, api.Label{Name: "q", Value: "spoilt"})
			fill(append(l, api.Label{}), api.Label{Name: "q", Value: "spoilt"})
		}
		fill(x.Names(), "spoilt")
		fill(x.Values("a"), "spoilt")
		fill(s.Values("b"), "spoilt")
	}
	if told(x) != before || told(s) != before {
		t.Errorf("they have become %s, %s", told(x), told(s))
	}
}

// R2: nil and empty lists are one.
func TestNilIsEmpty(t *testing.T) {
	x := index.New()
	if x.Add(1, []api.Label{}) != api.OK || x.Add(2, nil) != api.ErrIndexTwice {
		t.Error("Add")
	}
	if id, there := x.Of([]api.Label{}); id != 1 || !there {
		t.Errorf("Of: %d, %t", id, there)
	}
	finds(t, x, []uint64{1}, []api.Matcher{}...)
	finds(t, x, []uint64{1}, api.Matcher{Kind: api.MatchEqual, Name: "a", Words: []string{}})
	same(t, "And", index.And([]int{}, nil), nil)
	same(t, "Or", index.Or([]int{}, []int{1}), []int{1})
	same(t, "Without", index.Without([]int{1}, []int{}), []int{1})
}
