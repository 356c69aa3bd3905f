package index_test

import (
	"cmp"
	"fmt"
	"math/rand"
	"slices"
	"testing"

	"fathom/api"
	"fathom/index"
)

// list tells labels of names and values, one behind the other.
func list(l ...string) []api.Label {
	var out []api.Label
	for i := 0; i+1 < len(l); i += 2 {
		out = append(out, api.Label{Name: l[i], Value: l[i+1]})
	}
	return out
}

func matcher(kind int, name, value string, words ...string) api.Matcher {
	return api.Matcher{Kind: kind, Name: name, Value: value, Words: words}
}

func equal(name, value string) api.Matcher  { return matcher(api.MatchEqual, name, value) }
func unlike(name, value string) api.Matcher { return matcher(api.MatchUnlike, name, value) }
func begins(name, value string) api.Matcher { return matcher(api.MatchBegins, name, value) }
func oneOf(name string, words ...string) api.Matcher {
	return matcher(api.MatchOneOf, name, "", words...)
}

// text tells anything by a text in which nil and empty are one.
func text(x any) string { return fmt.Sprintf("%q", x) }

// same: two lists have the same items.
func same[A comparable](t *testing.T, what string, got, want []A) {
	t.Helper()
	if !slices.Equal(got, want) {
		t.Errorf("%s: %.300s, want %.300s", what, text(got), text(want))
	}
}

// adds: the number can be laid under these labels.
func adds(t *testing.T, x *index.Index, id uint64, l ...string) {
	t.Helper()
	if e := x.Add(id, list(l...)); e != api.OK {
		t.Fatalf("Add(%d, %q): %d", id, l, e)
	}
}

// finds: these numbers are found.
func finds(t *testing.T, x *index.Index, want []uint64, m ...api.Matcher) {
	t.Helper()
	l, e := x.Find(m...)
	if e != api.OK {
		t.Errorf("Find(%.300s): %d", text(m), e)
	}
	same(t, "Find("+text(m)+")", l, want)
}

// refuses: these matchers may not be.
func refuses(t *testing.T, x *index.Index, m ...api.Matcher) {
	t.Helper()
	if l, e := x.Find(m...); len(l) > 0 || e != api.ErrLabelMatch {
		t.Errorf("Find(%.300s): %v, %d", text(m), l, e)
	}
}

// told tells all that an index tells of the numbers below 64, of the names and values that tests take, and of itself.
func told(x *index.Index) string {
	all, e := x.Find()
	s := fmt.Sprint(x.Len(), all, e)
	for id := range uint64(64) {
		l, there := x.Labels(id)
		of, found := x.Of(l)
		s += text(l) + fmt.Sprint(there, of, found)
	}
	s += text(x.Names())
	for _, name := range names() {
		s += text(x.Values(name))
		for _, value := range append(values(), "") {
			l, _ := x.Find(equal(name, value))
			s += fmt.Sprint(l)
		}
	}
	return s
}

// names, values: few of them, so that they meet.
func names() []string  { return []string{"a", "b", "ab", "A", "_"} }
func values() []string { return []string{"x", "y", "xy", "xyz", "\x00", "\u00e9", "z"} }

func someOf[A any](rnd *rand.Rand, l ...A) A { return l[rnd.Intn(len(l))] }

// someLabels tells labels that are mostly good, in any order.
func someLabels(rnd *rand.Rand) []api.Label {
	var l []api.Label
	for range rnd.Intn(4) {
		l = append(l, api.Label{Name: someOf(rnd, names()...), Value: someOf(rnd, append(values(), "")...)})
	}
	if rnd.Intn(20) == 0 {
		l = append(l, someOf(rnd, api.Label{Name: "1", Value: "x"}, api.Label{Name: "b", Value: "\xff"}, api.Label{}))
	}
	return l
}

// someMatcher tells a matcher that may be.
func someMatcher(rnd *rand.Rand) api.Matcher {
	name := someOf(rnd, append(names(), "none")...)
	some := append(values(), "", "", "none")
	switch rnd.Intn(4) {
	case 0:
		return equal(name, someOf(rnd, some...))
	case 1:
		return unlike(name, someOf(rnd, some...))
	case 2:
		return begins(name, someOf(rnd, some...))
	}
	m := oneOf(name)
	for range 1 + rnd.Intn(4) {
		m.Words = append(m.Words, someOf(rnd, some...))
	}
	return m
}

// rising tells a list that rises, of items that are below n.
func rising(rnd *rand.Rand, n int) []int {
	var l []int
	for x := range n {
		if rnd.Intn(2) == 0 {
			l = append(l, x)
		}
	}
	return l
}

// has tells whether an item is in a list.
func has[T cmp.Ordered](l []T, x T) bool {
	for _, y := range l {
		if x == y {
			return true
		}
	}
	return false
}
