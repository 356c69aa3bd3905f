package index_test

import (
	"fmt"
	"math"
	"slices"
	"strings"
	"testing"

	"fathom/api"
	"fathom/index"
)

// example tells the chapter's.
func example(t *testing.T) *index.Index {
	t.Helper()
	x := index.New()
	adds(t, x, 7, "a", "x")
	adds(t, x, 3, "a", "y", "b", "z")
	adds(t, x, 9)
	return x
}

// The chapter's second example.
func TestFindExamples(t *testing.T) {
	x := example(t)
	finds(t, x, []uint64{3, 7, 9})
	finds(t, x, []uint64{7}, equal("a", "x"))
	finds(t, x, []uint64{3, 9}, unlike("a", "x"))
	finds(t, x, []uint64{3, 7, 9}, begins("a", ""))
	finds(t, x, []uint64{7, 9}, equal("b", ""))
	finds(t, x, []uint64{7, 9}, oneOf("a", "x", ""))
	finds(t, x, []uint64{3}, unlike("a", ""), equal("b", "z"))
}

// The chapter's third example, with what is told beside it.
func TestAddExamples(t *testing.T) {
	x := example(t)
	for i, e := range []api.Errno{x.Add(7, list("c", "d")), x.Add(8, list("b", "z", "a", "y")), x.Add(8, list("a", "x", "a", "x"))} {
		if want := []api.Errno{api.ErrIndexTwice, api.ErrIndexTwice, api.ErrLabelTwice}[i]; e != want {
			t.Errorf("%d: %d, want %d", i, e, want)
		}
	}
	same(t, "Names", x.Names(), []string{"a", "b"})
	same(t, "Values(a)", x.Values("a"), []string{"x", "y"})
	same(t, "Values(c)", x.Values("c"), nil)
	if id, there := x.Of(list("b", "z", "a", "y")); id != 3 || !there {
		t.Errorf("Of: %d, %t", id, there)
	}
	if !x.Drop(3) || x.Drop(3) {
		t.Error("Drop")
	}
	same(t, "Names", x.Names(), []string{"a"})
}

// The chapter's fourth example; P14.6: the two go on by themselves, the one as the other.
func TestSnapshots(t *testing.T) {
	x := example(t)
	before := told(x)
	s := x.Snapshot()
	adds(t, x, 1, "q", "r")
	if s.Len() != 3 || told(s) != before {
		t.Errorf("the snapshot has become %s", told(s))
	}
	after := told(x)
	adds(t, s, 1, "b", "x")
	if !s.Drop(7) || told(x) != after {
		t.Errorf("the index has become %s", told(x))
	}
	finds(t, x, []uint64{1, 3, 7, 9})
	finds(t, s, []uint64{1, 3, 9})
	same(t, "the snapshot's", s.Names(), []string{"a", "b"})
	same(t, "the snapshot's", s.Values("b"), []string{"x", "z"})
	same(t, "the index's", x.Names(), []string{"a", "b", "q"})
	if empty := index.New().Snapshot(); empty.Len() != 0 || empty.Add(1, nil) != api.OK || empty.Len() != 1 {
		t.Error("of an empty one")
	}
}

// P14.2: an index without numbers.
func TestNew(t *testing.T) {
	x := index.New()
	if x.Len() != 0 || x.Drop(0) || len(x.Names()) > 0 || len(x.Values("a")) > 0 {
		t.Error("something is in it")
	}
	if l, there := x.Labels(0); len(l) > 0 || there {
		t.Errorf("Labels: %v, %t", l, there)
	}
	if id, there := x.Of(nil); id != 0 || there {
		t.Errorf("Of: %d, %t", id, there)
	}
	finds(t, x, nil)
	finds(t, x, nil, equal("a", ""), begins("a", ""))
	refuses(t, x, matcher(api.MatchNone, "a", ""))
	if y := index.New(); y.Add(1, nil) != api.OK || x.Len() != 0 {
		t.Error("two that are one")
	}
}

// P14.3: label.Set's errors, of a number that is there, too, and of labels too many; behind an error all is as it was.
func TestAddRefusesLabels(t *testing.T) {
	x := example(t)
	before := told(x)
	var many []api.Label
	for i := range 17 {
		many = append(many, api.Label{Name: fmt.Sprint("n", i), Value: "x"})
	}
	for _, c := range []struct {
		l []api.Label
		e api.Errno
	}{
		{list("", "x"), api.ErrLabelName},
		{list("1", "x"), api.ErrLabelName},
		{list("a", "x", "b-", "x"), api.ErrLabelName},
		{list(strings.Repeat("n", 65), "x"), api.ErrLabelName},
		{list("a", "\xff"), api.ErrLabelValue},
		{list("a", strings.Repeat("v", 257)), api.ErrLabelValue},
		{list("a", "x", "a", "x"), api.ErrLabelTwice},
		{list("a", "", "a", "x"), api.ErrLabelTwice},
		{many, api.ErrLabelMany},
	} {
		for _, id := range []uint64{7, 8} {
			if e := x.Add(id, c.l); e != c.e {
				t.Errorf("Add(%d, %.100q): %d, want %d", id, c.l, e, c.e)
			}
		}
		if id, there := x.Of(c.l); id != 0 || there {
			t.Errorf("Of(%.100q): %d, %t", c.l, id, there)
		}
	}
	if told(x) != before {
		t.Errorf("it has become %s", told(x))
	}
	if e := x.Add(8, many[:16]); e != api.OK {
		t.Errorf("16 labels: %d", e)
	}
	finds(t, x, []uint64{8}, equal("n15", "x"))
}

// P14.3: a number, or a set, that is there: whatever the order of the labels, and with labels without value; behind an error all is as it was.
func TestAddTwice(t *testing.T) {
	x := example(t)
	before := told(x)
	for _, c := range []struct {
		id uint64
		l  []api.Label
	}{
		{7, list("a", "x")}, {7, list("n", "new")}, {3, nil}, {9, list("a", "x")},
		{8, list("a", "x")}, {8, nil}, {8, list("c", "")}, {8, list("c", "", "b", "z", "a", "y")}, {math.MaxUint64, list("a", "x", "b", "")},
	} {
		if e := x.Add(c.id, c.l); e != api.ErrIndexTwice {
			t.Errorf("Add(%d, %q): %d", c.id, c.l, e)
		}
	}
	if told(x) != before {
		t.Errorf("it has become %s", told(x))
	}
	adds(t, x, 8, "a", "y")
	adds(t, x, 0, "b", "z")
	adds(t, x, math.MaxUint64, "a", "y", "b", "z", "c", "x")
	finds(t, x, []uint64{0, 3, 7, 8, 9, math.MaxUint64})
}

// P14.3: as many numbers as may be, and one more: a number or a set that is there is told first; behind a Drop there is room again.
func TestFull(t *testing.T) {
	x := index.New()
	for i := range api.MaxIndex {
		adds(t, x, uint64(i*7919%api.MaxIndex)+100, "n", fmt.Sprint("v", i), "half", fmt.Sprint(i%2))
	}
	for _, c := range []struct {
		id uint64
		l  []api.Label
		e  api.Errno
	}{
		{1, nil, api.ErrIndexFull}, {math.MaxUint64, list("n", "v0"), api.ErrIndexFull},
		{1, list("n", "v0", "half", "0"), api.ErrIndexTwice}, {100, nil, api.ErrIndexTwice}, {1, list("1", "x"), api.ErrLabelName},
	} {
		if e := x.Add(c.id, c.l); e != c.e {
			t.Errorf("Add(%d, %q): %d, want %d", c.id, c.l, e, c.e)
		}
	}
	if l, e := x.Find(); len(l) != api.MaxIndex || e != api.OK || !index.Rising(l) || x.Len() != api.MaxIndex || l[0] != 100 {
		t.Errorf("%d numbers", len(l))
	}
	if l, _ := x.Find(unlike("n", "v5")); len(l) != api.MaxIndex-1 {
		t.Errorf("unlike: %d", len(l))
	}
	if l, _ := x.Find(begins("n", "v1"), equal("half", "1")); len(l) != 556 {
		t.Errorf("begins: %d", len(l))
	}
	if l := x.Values("n"); len(l) != api.MaxIndex || !index.Rising(l) {
		t.Errorf("%d values", len(l))
	}
	if !x.Drop(100) || x.Add(1, nil) != api.OK || x.Add(2, list("a", "x")) != api.ErrIndexFull {
		t.Error("behind a Drop")
	}
}

// P14.3, P14.8: what was dropped is there no more, and may be laid under other labels, or another number under those.
func TestDrop(t *testing.T) {
	x := example(t)
	if x.Drop(8) || x.Drop(0) || x.Drop(math.MaxUint64) || x.Len() != 3 {
		t.Error("one that is not there")
	}
	if !x.Drop(7) {
		t.Error("one that is there")
	}
	if l, there := x.Labels(7); len(l) > 0 || there {
		t.Errorf("Labels: %v, %t", l, there)
	}
	if id, there := x.Of(list("a", "x")); id != 0 || there {
		t.Errorf("Of: %d, %t", id, there)
	}
	finds(t, x, []uint64{3, 9})
	finds(t, x, nil, equal("a", "x"))
	same(t, "Values", x.Values("a"), []string{"y"})
	adds(t, x, 7, "q", "r")
	adds(t, x, 5, "a", "x")
	finds(t, x, []uint64{5}, equal("a", "x"))
	for _, id := range []uint64{3, 5, 7, 9} {
		if !x.Drop(id) {
			t.Errorf("Drop(%d)", id)
		}
	}
	if told(x) != told(index.New()) {
		t.Errorf("something is left: %s", told(x))
	}
}

// P14.4: too many matchers, and each that may not be, at each place.
func TestFindRefuses(t *testing.T) {
	x := example(t)
	good := slices.Repeat([]api.Matcher{begins("a", "")}, 17)
	finds(t, x, []uint64{3, 7, 9}, good[:16]...)
	refuses(t, x, good...)
	refuses(t, x, slices.Repeat(good, 100)...)
	words := slices.Repeat([]string{"x"}, 65)
	finds(t, x, []uint64{7}, oneOf("a", words[:64]...))
	for _, bad := range []api.Matcher{
		{}, matcher(api.MatchNone, "a", "x"), matcher(5, "a", "x"), matcher(-1, "a", "x"), matcher(math.MaxInt, "a", "x"), matcher(math.MinInt, "a", "x"),
		equal("", "x"), unlike("1", "x"), begins("a-", "x"), oneOf("\u00e9", "x"), equal(strings.Repeat("n", 65), "x"),
		equal("a", "\xff"), unlike("a", strings.Repeat("v", 257)), begins("a", "\xc3"), matcher(api.MatchEqual, "a", "x", "x"),
		oneOf("a"), oneOf("a", words...), oneOf("a", "x", "\xff"), matcher(api.MatchOneOf, "a", "x", "x"),
	} {
		refuses(t, x, bad)
		for at := range 16 {
			m := slices.Clone(good[:16])
			m[at] = bad
			refuses(t, x, m...)
			refuses(t, x, m[:at+1]...)
		}
		refuses(t, x, equal("a", "none"), bad)
	}
}

// P14.4: what each kind finds where names lie near each other, and of names that nobody has.
func TestFind(t *testing.T) {
	x := index.New()
	adds(t, x, math.MaxUint64, "a", "xyz")
	adds(t, x, 0, "a", "xy", "ab", "x")
	adds(t, x, 50, "a", "x", "ab", "xy")
	adds(t, x, 40, "ab", "xyz")
	adds(t, x, 30, "a", "yx")
	adds(t, x, 20, "b", "\x00")
	finds(t, x, []uint64{0, 50, math.MaxUint64}, begins("a", "x"))
	finds(t, x, []uint64{0, math.MaxUint64}, begins("a", "xy"))
	finds(t, x, []uint64{0}, begins("a", "xy"), unlike("a", "xyz"))
	finds(t, x, []uint64{50}, equal("a", "x"))
	finds(t, x, []uint64{20, 40}, equal("a", ""))
	finds(t, x, []uint64{0, 30, 50, math.MaxUint64}, unlike("a", ""))
	finds(t, x, []uint64{0, 20, 30, 40, 50, math.MaxUint64}, equal("none", ""))
	finds(t, x, nil, unlike("none", ""))
	finds(t, x, nil, equal("none", "x"))
	finds(t, x, []uint64{0, 20, 30, 40, 50, math.MaxUint64}, unlike("none", "x"))
	finds(t, x, []uint64{0, 20, 40, 50}, oneOf("a", "xy", "", "x", "x", "none"))
	finds(t, x, []uint64{20}, begins("b", "\x00"))
	finds(t, x, nil, equal("a", "x"), equal("a", "xy"))
	finds(t, x, []uint64{40}, equal("a", ""), unlike("ab", ""))
}

// P14.5: what is told of names, values, labels: each once, in order, byte by byte; labels without value stand nowhere.
func TestTold(t *testing.T) {
	x := index.New()
	adds(t, x, 4, "b", "\u00e9", "a", "y", "Z", "1", "_", "", "none", "")
	adds(t, x, 2, "b", "z", "ab", "x")
	adds(t, x, 6, "b", "z", "a", "\x00")
	adds(t, x, 1, "b", "za")
	same(t, "Names", x.Names(), []string{"Z", "a", "ab", "b"})
	same(t, "Values(b)", x.Values("b"), []string{"z", "za", "\u00e9"})
	same(t, "Values(a)", x.Values("a"), []string{"\x00", "y"})
	for _, name := range []string{"", "none", "_", "c", "B", "aa", "\xff", strings.Repeat("n", 1000)} {
		same(t, "Values("+name+")", x.Values(name), nil)
	}
	l, there := x.Labels(4)
	same(t, "Labels(4)", l, list("Z", "1", "a", "y", "b", "\u00e9"))
	if !there || x.Len() != 4 {
		t.Errorf("%t, %d", there, x.Len())
	}
	for _, c := range []struct {
		l     []api.Label
		id    uint64
		there bool
	}{
		{list("b", "\u00e9", "a", "y", "Z", "1"), 4, true}, {list("Z", "1", "a", "y", "b", "\u00e9", "q", ""), 4, true}, {list("b", "za"), 1, true},
		{list("b", "\u00e9", "a", "y"), 0, false}, {list("b", "z"), 0, false}, {nil, 0, false}, {list("b", "za", "c", "x"), 0, false}, {list("b", "za", "b", ""), 0, false},
	} {
		if id, there := x.Of(c.l); id != c.id || there != c.there {
			t.Errorf("Of(%q): %d, %t", c.l, id, there)
		}
	}
	adds(t, x, 0)
	if l, there := x.Labels(0); len(l) > 0 || !there {
		t.Errorf("Labels(0): %v, %t", l, there)
	}
	if id, there := x.Of(list("q", "")); id != 0 || !there {
		t.Errorf("Of: %d, %t", id, there)
	}
}
