package label_test

import (
	"math"
	"math/rand"
	"slices"
	"strings"
	"testing"

	"fathom/api"
	"fathom/label"
)

func matcher(kind int, name, value string, words ...string) api.Matcher {
	return api.Matcher{Kind: kind, Name: name, Value: value, Words: words}
}

// wantCheck tells whether a matcher may be, by the chapter's words.
func wantCheck(m api.Matcher) bool {
	switch m.Kind {
	case api.MatchEqual, api.MatchUnlike, api.MatchBegins:
		return wantName(m.Name) && wantValue(m.Value) && len(m.Words) == 0
	case api.MatchOneOf:
		for _, w := range m.Words {
			if !wantValue(w) {
				return false
			}
		}
		return wantName(m.Name) && m.Value == "" && len(m.Words) >= 1 && len(m.Words) <= 64
	}
	return false
}

// wantMatch tells whether a matcher takes labels.
func wantMatch(m api.Matcher, l []api.Label) bool {
	if !wantCheck(m) {
		return false
	}
	v := ""
	for _, x := range slices.Backward(l) {
		if x.Name == m.Name {
			v = x.Value
		}
	}
	switch m.Kind {
	case api.MatchEqual:
		return v == m.Value
	case api.MatchUnlike:
		return v != m.Value
	case api.MatchBegins:
		return len(v) >= len(m.Value) && v[:len(m.Value)] == m.Value
	}
	for _, w := range m.Words {
		if v == w {
			return true
		}
	}
	return false
}

// wantMatchText tells the text of a matcher that may be.
func wantMatchText(m api.Matcher) string {
	if m.Kind == api.MatchOneOf {
		s := ""
		for _, w := range m.Words {
			s += "," + wantQuote(w)
		}
		return m.Name + " in (" + s[1:] + ")"
	}
	return m.Name + map[int]string{api.MatchEqual: "=", api.MatchUnlike: "!=", api.MatchBegins: "^="}[m.Kind] + wantQuote(m.Value)
}

// asks: Check, Match, MatchText tell what the chapter says.
func asks(t *testing.T, m api.Matcher, l []api.Label) {
	t.Helper()
	want, e := "", api.ErrLabelMatch
	if wantCheck(m) {
		want, e = wantMatchText(m), api.OK
	}
	if got := label.Check(m); got != e {
		t.Errorf("Check(%.200v): %d, want %d", m, got, e)
	}
	if s, got := label.MatchText(m); s != want || got != e {
		t.Errorf("MatchText(%.200v): %.200s, %d; want %.200s, %d", m, s, got, want, e)
	}
	if got := label.Match(m, l); got != wantMatch(m, l) {
		t.Errorf("Match(%.200v, %s): %t", m, text(l), got)
	}
}

// The chapter's fifth example.
func TestMatchExamples(t *testing.T) {
	for _, c := range []struct {
		m api.Matcher
		s string
	}{
		{matcher(api.MatchBegins, "a", ""), `a^=""`},
		{matcher(api.MatchEqual, "a", ""), `a=""`},
		{matcher(api.MatchUnlike, "a", "x"), `a!="x"`},
		{matcher(api.MatchOneOf, "a", "", "", "y"), `a in ("","y")`},
	} {
		if s, e := label.MatchText(c.m); s != c.s || e != api.OK || !label.Match(c.m, nil) {
			t.Errorf("%s, %d; want %s", s, e, c.s)
		}
	}
}

// P13.6, P13.8: what a matcher may be, with each part wrong by itself.
func TestCheck(t *testing.T) {
	l := list("a", "x")
	name, value, words := strings.Repeat("n", 64), strings.Repeat("v", 256), slices.Repeat([]string{"w"}, 64)
	for _, kind := range []int{api.MatchNone, api.MatchEqual, api.MatchUnlike, api.MatchBegins, api.MatchOneOf, 5, -1, math.MaxInt, math.MinInt} {
		for _, m := range []api.Matcher{
			matcher(kind, "a", "x"), matcher(kind, "a", ""), matcher(kind, "a", "", "x"), matcher(kind, "a", "x", "x"), matcher(kind, "a", "", ""), matcher(kind, "a", "", "x", "x", "", ""),
			matcher(kind, "", "x"), matcher(kind, "", "", "x"), matcher(kind, "1", "x"), matcher(kind, "1", "", "x"), matcher(kind, "a-", "", "x"), matcher(kind, "a-", "x"),
			matcher(kind, name, value), matcher(kind, name+"n", value), matcher(kind, name, value+"v"), matcher(kind, "a", "\xff"), matcher(kind, "a", "\xed\xa0\x80"),
			matcher(kind, name, "", words...), matcher(kind, name+"n", "", words...), matcher(kind, "a", "", append(words, "w")...), matcher(kind, "a", "", value), matcher(kind, "a", "", value+"v"),
			matcher(kind, "a", "", "x", "\xff"), matcher(kind, "a", "", "\xff", "x"), matcher(kind, "a", "\xff", "x"), {Kind: kind, Name: "a", Words: []string{}}, {Kind: kind},
			{Kind: kind, Name: "a", Value: "x", Words: []string{}},
		} {
			asks(t, m, l)
			asks(t, m, nil)
		}
	}
}

// P13.7: Match looks at the first label of a name, of any list.
func TestMatchOfAnyList(t *testing.T) {
	for _, l := range [][]api.Label{nil, list("a", "x"), list("a", "", "a", "x"), list("a", "x", "a", ""), list("b", "x"), list("b", "y", "a", "\xff"), list("", "x"), list("a", "xy", "1", "x")} {
		for _, kind := range []int{api.MatchEqual, api.MatchUnlike, api.MatchBegins} {
			for _, v := range []string{"", "x", "xy", "xyz", "y"} {
				asks(t, matcher(kind, "a", v), l)
			}
		}
		asks(t, matcher(api.MatchOneOf, "a", "", "y", "x"), l)
		asks(t, matcher(api.MatchOneOf, "a", "", "", "xy"), l)
		asks(t, matcher(api.MatchOneOf, "a", "", "yx"), l)
	}
}

// P13.6 to P13.8: any matchers on any labels.
func TestMatchOfAny(t *testing.T) {
	rnd := rand.New(rand.NewSource(139))
	for range 30000 {
		m := api.Matcher{Kind: rnd.Intn(6), Name: someName(rnd)}
		if m.Kind != api.MatchOneOf || rnd.Intn(9) == 0 {
			m.Value = someOf(rnd, someValue(rnd), someBytes(rnd), "")
		}
		if m.Kind == api.MatchOneOf || rnd.Intn(9) == 0 {
			for range rnd.Intn(4) {
				m.Words = append(m.Words, someOf(rnd, someValue(rnd), someValue(rnd), ""))
			}
		}
		l := anyLabels(rnd)
		if len(l) > 0 && rnd.Intn(2) == 0 {
			x := someOf(rnd, l...)
			m.Name = x.Name
			if len(m.Words) > 0 {
				m.Words[0] = x.Value
			} else {
				m.Value = x.Value[:rnd.Intn(len(x.Value)+1)]
			}
		}
		asks(t, m, l)
	}
}

// P13.7: MatchAll: each takes them; of none: true; one that may not be takes none; there may be more than a query has.
func TestMatchAll(t *testing.T) {
	l := list("a", "x", "b", "y")
	yes, no, bad := matcher(api.MatchEqual, "a", "x"), matcher(api.MatchUnlike, "b", "y"), matcher(api.MatchUnlike, "1", "y")
	for _, c := range []struct {
		m    []api.Matcher
		want bool
	}{
		{nil, true}, {[]api.Matcher{}, true}, {[]api.Matcher{yes}, true}, {[]api.Matcher{yes, yes}, true}, {[]api.Matcher{no}, false}, {[]api.Matcher{yes, no}, false}, {[]api.Matcher{no, yes}, false},
		{[]api.Matcher{yes, bad, yes}, false}, {[]api.Matcher{bad}, false}, {slices.Repeat([]api.Matcher{yes}, 100), true}, {append(slices.Repeat([]api.Matcher{yes}, 100), no), false},
	} {
		if got := label.MatchAll(c.m, l); got != c.want {
			t.Errorf("MatchAll(%.200v): %t", c.m, got)
		}
	}
	if !label.MatchAll(nil, nil) {
		t.Error("of no matchers, no labels")
	}
}

// P13.10: how the kinds stand to each other.
func TestKindsStandTogether(t *testing.T) {
	rnd := rand.New(rand.NewSource(140))
	for range 10000 {
		l, name := setOf(rnd), someName(rnd)
		v := someOf(rnd, someValue(rnd), "", label.Get(l, name))
		if label.Match(matcher(api.MatchEqual, name, v), l) == label.Match(matcher(api.MatchUnlike, name, v), l) {
			t.Errorf("%s = and != %q on %s", name, v, text(l))
		}
		if !label.Match(matcher(api.MatchBegins, name, ""), l) {
			t.Errorf("%s begins with nothing on %s", name, text(l))
		}
		words := []string{someValue(rnd), v, ""}[:1+rnd.Intn(3)]
		one := false
		for _, w := range words {
			one = one || label.Match(matcher(api.MatchEqual, name, w), l)
		}
		if got := label.Match(matcher(api.MatchOneOf, name, "", words...), l); got != one {
			t.Errorf("%s in %q on %s: %t", name, words, text(l), got)
		}
	}
}
