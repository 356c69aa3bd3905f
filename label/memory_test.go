package label_test

import (
	"slices"
	"sync"
	"testing"

	"fathom/api"
	"fathom/label"
)

// roomy tells a list with an item behind its length that must be neither read nor written.
func roomy[A any](l []A, behind A) []A {
	return append(slices.Clone(l), behind)[:len(l)]
}

// fill writes all over a list, its spare room too.
func fill[A any](l []A, x A) {
	l = l[:cap(l)]
	for i := range l {
		l[i] = x
	}
}

// P13.11, R2: lists that are handed in stay as they are, also behind their lengths; what is told is new memory.
func TestListsStay(t *testing.T) {
	behind := api.Label{Name: "zz", Value: "behind"}
	for _, l := range [][]api.Label{list("b", "x", "a", "y"), list("a", "y", "b", "x"), list("a", "", "b", "x"), list("a", "x")} {
		mine := roomy(l, behind)
		set, e := label.Set(mine)
		want, _ := wantOfSet(l)
		only := label.Only(mine, roomy([]string{"a", "b"}, "zz"))
		if e != api.OK || text(set) != text(want) || text(only) != text(l) {
			t.Errorf("%s, %s, %d", text(set), text(only), e)
		}
		fill(set, api.Label{Name: "#"})
		fill(only, api.Label{Name: "#"})
		if text(mine) != text(l) || mine[:len(l)+1][len(l)] != behind {
			t.Errorf("%s has become %s", text(l), text(mine[:len(l)+1]))
		}
		if label.Get(mine, "zz") != "" || label.Compare(mine, l) != 0 || !label.Equal(mine, l) {
			t.Error("what lies behind has been read")
		}
	}
}

// R2: keys and texts read nothing behind a list's length, and each key is new.
func TestKeysAreNew(t *testing.T) {
	l := list("a", "x", "b", "y")
	mine := roomy(l, api.Label{Name: "c", Value: "z"})
	one, _ := label.Key(mine)
	fill(one, 0xee)
	two, e := label.Key(mine)
	if string(two) != "a\x00x\x00\x01b\x00y\x00\x01" || e != api.OK {
		t.Errorf("%q, %d", two, e)
	}
	b := roomy(two, 'c')
	set, e := label.OfKey(b)
	if text(set) != text(l) || e != api.OK || !slices.Equal(b, two) || b[:len(two)+1][len(two)] != 'c' {
		t.Errorf("%s, %d; %q", text(set), e, b)
	}
	fill(b, 0xee)
	if text(set) != text(l) {
		t.Errorf("the bytes are kept: %s", text(set))
	}
	again, _ := label.OfKey(two)
	fill(set, api.Label{})
	if text(again) != text(l) || text(mine) != text(l) {
		t.Errorf("two answers share memory: %s", text(again))
	}
	if s, _ := label.Text(mine); s != `{a="x",b="y"}` {
		t.Errorf("Text: %s", s)
	}
}

// R2: two answers of Parse have nothing in common.
func TestParsedAreNew(t *testing.T) {
	const s = `{b="x",a="y"}`
	one, _ := label.Parse(s)
	fill(one, api.Label{})
	if two, f := label.Parse(s); text(two) != text(list("a", "y", "b", "x")) || f != (api.Fault{}) {
		t.Errorf("%s, %v", text(two), f)
	}
}

// R2: a matcher and its words stay as they are; nil and empty lists are one.
func TestMatchersStay(t *testing.T) {
	words := []string{"x", "y"}
	m := matcher(api.MatchOneOf, "a", "", roomy(words, "z")...)
	all := roomy([]api.Matcher{m}, matcher(api.MatchEqual, "a", "q"))
	if label.Match(m, list("a", "z")) || !label.MatchAll(all, list("a", "y")) {
		t.Error("what lies behind has been read")
	}
	if s, e := label.MatchText(m); s != `a in ("x","y")` || e != api.OK || label.Check(m) != api.OK {
		t.Errorf("%s, %d", s, e)
	}
	if !slices.Equal(m.Words, words) || m.Words[:3][2] != "z" {
		t.Errorf("%q", m.Words[:3])
	}
	for _, words := range [][]string{nil, {}} {
		if e := label.Check(api.Matcher{Kind: api.MatchEqual, Name: "a", Words: words}); e != api.OK {
			t.Errorf("MatchEqual: %d", e)
		}
		if e := label.Check(api.Matcher{Kind: api.MatchOneOf, Name: "a", Words: words}); e != api.ErrLabelMatch {
			t.Errorf("MatchOneOf: %d", e)
		}
	}
	for _, l := range [][]api.Label{nil, {}} {
		makes(t, l, nil)
		isKey(t, "", l)
		texts(t, l, "{}")
		if !label.Equal(l, nil) || label.Compare(l, []api.Label{}) != 0 || len(label.Only(l, nil)) != 0 {
			t.Error("nil and empty are told apart")
		}
	}
}

// R6: several goroutines may ask of one list at a time.
func TestManyGoroutines(t *testing.T) {
	l := list("b", "x", "a", "y")
	m := []api.Matcher{matcher(api.MatchOneOf, "a", "", "x", "y"), matcher(api.MatchBegins, "b", "x")}
	var done sync.WaitGroup
	for range 8 {
		done.Go(func() {
			for range 200 {
				makes(t, l, list("a", "y", "b", "x"))
				same(t, "Only", label.Only(l, []string{"a"}), list("a", "y"))
				if !label.MatchAll(m, l) {
					t.Error("MatchAll")
				}
			}
		})
	}
	done.Wait()
}
