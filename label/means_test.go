package label_test

import (
	"fmt"
	"math/rand"
	"slices"
	"strings"
	"testing"

	"fathom/api"
)

// list tells labels of names and values, one behind the other.
func list(l ...string) []api.Label {
	var out []api.Label
	for i := 0; i+1 < len(l); i += 2 {
		out = append(out, api.Label{Name: l[i], Value: l[i+1]})
	}
	return out
}

// many tells so many labels, each with a value and a name of its own.
func many(n int) []api.Label {
	var l []api.Label
	for i := range n {
		l = append(l, api.Label{Name: fmt.Sprintf("n%06d", i), Value: "x"})
	}
	return l
}

// text tells anything by a text in which nil and empty are one.
func text(x any) string { return fmt.Sprintf("%q", x) }

// same: two lists of labels have the same items.
func same(t *testing.T, what string, got, want []api.Label) {
	t.Helper()
	if text(got) != text(want) {
		t.Errorf("%s: %s, want %s", what, text(got), text(want))
	}
}

// wellFormed tells how many bytes the good UTF-8 at the front has; 0, if there is none. It reckons by the bytes alone.
func wellFormed(s string) int {
	if s == "" {
		return 0
	}
	size, least, x := 0, 0, int(s[0])
	switch {
	case x < 0x80:
		return 1
	case x>>5 == 6:
		size, least, x = 2, 0x80, x&0x1f
	case x>>4 == 14:
		size, least, x = 3, 0x800, x&0xf
	case x>>3 == 30:
		size, least, x = 4, 0x10000, x&7
	default:
		return 0
	}
	if len(s) < size {
		return 0
	}
	for _, c := range []byte(s[1:size]) {
		if c>>6 != 2 {
			return 0
		}
		x = x<<6 | int(c&0x3f)
	}
	if x < least || x > 0x10ffff || x >= 0xd800 && x <= 0xdfff {
		return 0
	}
	return size
}

// wantName, wantValue, wantSet: what the chapter calls so.
func wantName(s string) bool {
	for i, c := range []byte(s) {
		letter := strings.IndexByte("abcdefghijklmnopqrstuvwxyzABCDEFGHIJKLMNOPQRSTUVWXYZ_", c) >= 0
		if !letter && (i == 0 || strings.IndexByte("0123456789", c) < 0) {
			return false
		}
	}
	return len(s) >= 1 && len(s) <= 64
}

func wantValue(s string) bool {
	if len(s) > 256 {
		return false
	}
	for s != "" {
		n := wellFormed(s)
		if n == 0 {
			return false
		}
		s = s[n:]
	}
	return true
}

func wantSet(l []api.Label) bool {
	for i, x := range l {
		if !wantName(x.Name) || !wantValue(x.Value) || x.Value == "" || i > 0 && l[i-1].Name >= x.Name {
			return false
		}
	}
	return len(l) <= 16
}

// someOf tells one of these.
func someOf[A any](rnd *rand.Rand, l ...A) A { return l[rnd.Intn(len(l))] }

// someName tells a name; few of them, so that they meet.
func someName(rnd *rand.Rand) string {
	return someOf(rnd, "a", "b", "ab", "a0", "aa", "A", "_", "Z9", "b_", strings.Repeat("n", 64))
}

// someValue tells a value that is not empty; many of them are near each other.
func someValue(rnd *rand.Rand) string {
	var b strings.Builder
	for range 1 + rnd.Intn(4) {
		b.WriteString(someOf(rnd, "\x00", "\x01", "\x02", "a", "b", "\"", "\\", "\n", "\x7f", " ", "\u00e9", "\ufffd", "\U0010ffff", "\xf0\x90\x80\x80", "=", ",", "}"))
	}
	return b.String()
}

// someBytes tells bytes, good and bad UTF-8 and all that quoting looks at.
func someBytes(rnd *rand.Rand) string {
	var b strings.Builder
	for range rnd.Intn(7) {
		b.WriteString(someOf(rnd, "\x00", "\x1f", " ", "a", "\"", "\\", "\n", "\x7f", "\x80", "\xbf", "\xc0", "\xc3", "\xa9", "\xe2\x82", "\xe2\x82\xac", "\xed\xa0\x80", "\xef\xbf\xbd", "\xf0", "\xf4\x8f\xbf\xbf", "\xf4\x90\x80\x80", "\xff", string([]byte{byte(rnd.Intn(256))})))
	}
	return b.String()
}

// setOf tells a set, in order.
func setOf(rnd *rand.Rand) []api.Label {
	var l []api.Label
	for range rnd.Intn(5) {
		name := someName(rnd)
		if !slices.ContainsFunc(l, func(x api.Label) bool { return x.Name == name }) {
			l = append(l, api.Label{Name: name, Value: someValue(rnd)})
		}
	}
	slices.SortFunc(l, func(a, b api.Label) int { return strings.Compare(a.Name, b.Name) })
	return l
}

// anyLabels tells labels that are mostly good, in any order.
func anyLabels(rnd *rand.Rand) []api.Label {
	var l []api.Label
	for range rnd.Intn(6) {
		x := api.Label{Name: someName(rnd), Value: someValue(rnd)}
		switch rnd.Intn(20) {
		case 0:
			x.Name = someOf(rnd, "", "1", "a-", "\u00e9", "a\x00", strings.Repeat("n", 65))
		case 1:
			x.Value = someOf(rnd, "\xff", "a\xc3", "\xed\xa0\x80", strings.Repeat("v", 257))
		case 2, 3, 4:
			x.Value = ""
		}
		l = append(l, x)
	}
	return l
}
