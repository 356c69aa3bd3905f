package label_test

import (
	"math/rand"
	"slices"
	"strings"
	"testing"

	"fathom/api"
	"fathom/label"
)

// refused: Set tells that error, and no labels.
func refused(t *testing.T, l []api.Label, want api.Errno) {
	t.Helper()
	if set, e := label.Set(l); len(set) != 0 || e != want {
		t.Errorf("Set(%.200s): %s, %d; want %d", text(l), text(set), e, want)
	}
}

// makes: Set tells these labels.
func makes(t *testing.T, l, want []api.Label) {
	t.Helper()
	set, e := label.Set(l)
	if text(set) != text(want) || e != api.OK {
		t.Errorf("Set(%.200s): %s, %d; want %s", text(l), text(set), e, text(want))
	}
}

// The chapter's first example.
func TestSetExamples(t *testing.T) {
	makes(t, list("b", "x", "a", "y"), list("a", "y", "b", "x"))
	makes(t, list("a", ""), nil)
	makes(t, nil, nil)
	refused(t, list("a", "1", "a", "1"), api.ErrLabelTwice)
	refused(t, list("a", "", "a", "1"), api.ErrLabelTwice)
	refused(t, list("1a", "x"), api.ErrLabelName)
	refused(t, list("a", "\xff"), api.ErrLabelValue)
	refused(t, many(17), api.ErrLabelMany)
	l := many(17)
	l[9].Value = ""
	makes(t, l, slices.Delete(many(17), 9, 10))
}

// P13.1: what a name is, byte by byte.
func TestNames(t *testing.T) {
	for c := range 256 {
		for _, name := range []string{string([]byte{byte(c)}), string([]byte{'a', byte(c)}), string([]byte{'_', byte(c), 'Z'})} {
			if wantName(name) {
				makes(t, list(name, "x"), list(name, "x"))
			} else {
				refused(t, list(name, "x"), api.ErrLabelName)
			}
		}
	}
	refused(t, list("", "x"), api.ErrLabelName)
	makes(t, list(strings.Repeat("a", 64), "x"), list(strings.Repeat("a", 64), "x"))
	refused(t, list(strings.Repeat("a", 65), "x"), api.ErrLabelName)
}

// P13.1: what a value is: its length, and good UTF-8 at each edge of it.
func TestValues(t *testing.T) {
	for _, v := range []string{
		"a", "\x00", "\n", "\x7f", "\xc2\x80", "\xdf\xbf", "\xe0\xa0\x80", "\xed\x9f\xbf", "\xee\x80\x80", "\xef\xbf\xbd", "\xef\xbf\xbf", "\xf0\x90\x80\x80", "\xf4\x8f\xbf\xbf",
		strings.Repeat("v", 256), strings.Repeat("\xc3\xa9", 128),
	} {
		makes(t, list("a", v), list("a", v))
	}
	for _, v := range []string{
		"\x80", "\xbf", "\xc0\x80", "\xc1\xbf", "\xc2", "\xc2a", "\xe0\x80\x80", "\xe0\x9f\xbf", "\xe2\x82", "\xed\xa0\x80", "\xed\xbf\xbf", "\xf0\x8f\xbf\xbf", "\xf0\x90\x80", "\xf4\x90\x80\x80", "\xf5\x80\x80\x80", "\xf8\x88\x80\x80\x80", "\xfe", "\xff",
		"good and \xff", "\xef\xbf\xbd\xef\xbf", strings.Repeat("v", 257), strings.Repeat("\xc3\xa9", 128) + "v", strings.Repeat("v", 255) + "\xc3\xa9",
	} {
		refused(t, list("a", v), api.ErrLabelValue)
	}
}

// P13.1: each sequence of two bytes, and each of three and four with bytes at the edges.
func TestUTF8(t *testing.T) {
	edges := []byte{0, 0x7f, 0x80, 0x8f, 0x90, 0x9f, 0xa0, 0xbf, 0xc0, 0xff}
	look := func(b ...byte) {
		_, e := label.Set(list("a", string(b)))
		if (e == api.OK) != wantValue(string(b)) {
			t.Errorf("%x: %d", b, e)
		}
	}
	for a := range 256 {
		look(byte(a))
		for b := range 256 {
			look(byte(a), byte(b))
			for _, c := range edges {
				look(byte(a), byte(b), c)
				if a >= 0xe0 {
					look(byte(a), byte(b), c, 0x80)
					look(byte(a), byte(b), c, 'a')
					look(byte(a), byte(b), 0x80, c)
				}
			}
		}
	}
}

// P13.1: errors come label by label, and of one label in their order; too many are told behind all of these.
func TestSetErrorOrder(t *testing.T) {
	refused(t, list("1", "\xff"), api.ErrLabelName)
	refused(t, list("a", "\xff", "1", "x"), api.ErrLabelValue)
	refused(t, list("1", "x", "a", "\xff"), api.ErrLabelName)
	refused(t, list("a", "x", "a", "\xff"), api.ErrLabelValue)
	refused(t, list("a", "x", "a", "x", "1", "x"), api.ErrLabelTwice)
	refused(t, list("a", "x", "a", "x", "b", "\xff"), api.ErrLabelTwice)
	refused(t, list("a", "x", "b", "\xff", "a", "x"), api.ErrLabelValue)
	refused(t, list("a", "x", "b", "y", "a", ""), api.ErrLabelTwice)
	refused(t, list("a", "", "b", "y", "a", ""), api.ErrLabelTwice)
	refused(t, append(many(17), list("1", "x")...), api.ErrLabelName)
	refused(t, append(many(17), list("a", "\xff")...), api.ErrLabelValue)
	refused(t, append(many(17), list("n000003", "")...), api.ErrLabelTwice)
}

// P13.1: as many as may be; labels with the empty value don't count.
func TestSetMany(t *testing.T) {
	makes(t, many(16), many(16))
	l := many(40)
	for i := 16; i < 40; i++ {
		l[i].Value = ""
	}
	makes(t, l, many(16))
	slices.Reverse(l)
	makes(t, l, many(16))
	l[5].Value = "x"
	refused(t, l, api.ErrLabelMany)
	refused(t, many(100000), api.ErrLabelMany)
}

// wantOfSet tells what Set tells, by plain loops.
func wantOfSet(l []api.Label) ([]api.Label, api.Errno) {
	var set []api.Label
	for i, x := range l {
		if !wantName(x.Name) {
			return nil, api.ErrLabelName
		}
		if !wantValue(x.Value) {
			return nil, api.ErrLabelValue
		}
		for _, y := range l[:i] {
			if x.Name == y.Name {
				return nil, api.ErrLabelTwice
			}
		}
		if x.Value == "" {
			continue
		}
		at := 0
		for at < len(set) && set[at].Name < x.Name {
			at++
		}
		set = slices.Insert(set, at, x)
	}
	if len(set) > 16 {
		return nil, api.ErrLabelMany
	}
	return set, api.OK
}

// P13.1: any labels, against plain loops.
func TestSetOfAny(t *testing.T) {
	rnd := rand.New(rand.NewSource(131))
	for range 20000 {
		l := anyLabels(rnd)
		want, e := wantOfSet(l)
		if e != api.OK {
			refused(t, l, e)
		} else {
			makes(t, l, want)
		}
	}
}

// P13.2: Get tells the first label's value, of any list.
func TestGet(t *testing.T) {
	l := list("b", "x", "a", "y", "b", "z", "", "e", "\xff", "f", "c", "", "c", "g")
	for name, want := range map[string]string{"a": "y", "b": "x", "": "e", "\xff": "f", "c": "", "d": "", "B": "", "bb": ""} {
		if got := label.Get(l, name); got != want {
			t.Errorf("Get(%q): %q, want %q", name, got, want)
		}
	}
	if got := label.Get(nil, "a"); got != "" {
		t.Errorf("of none: %q", got)
	}
}

// sign tells how two lists stand, by the chapter's words: a list's labels one behind the other, name, then value.
func sign(a, b []api.Label) int {
	for i := range max(len(a), len(b)) {
		if i >= len(a) {
			return -1
		}
		if i >= len(b) {
			return 1
		}
		for _, p := range [][2]string{{a[i].Name, b[i].Name}, {a[i].Value, b[i].Value}} {
			if p[0] < p[1] {
				return -1
			}
			if p[0] > p[1] {
				return 1
			}
		}
	}
	return 0
}

// P13.2: Equal and Compare, of sets and of any other lists.
func TestCompare(t *testing.T) {
	lists := [][]api.Label{
		nil, {}, list("a", "x"), list("a", "x", "b", "y"), list("a", "xy"), list("ab", "a"), list("a", ""), list("", ""), list("", "a"),
		list("b", "y", "a", "x"), list("a", "x", "a", "x"), list("\xff", "x"), list("a", "\xff"), list("a", "\x80"), list("A", "x"), list("a", "x\x00"), list("a\x00", "x"), many(40), many(41),
	}
	for _, a := range lists {
		for _, b := range lists {
			want := sign(a, b)
			if got := label.Compare(a, b); got != want {
				t.Errorf("Compare(%.80s, %.80s): %d, want %d", text(a), text(b), got, want)
			}
			if got := label.Equal(a, b); got != (want == 0) {
				t.Errorf("Equal(%.80s, %.80s): %t", text(a), text(b), got)
			}
		}
	}
}

// The chapter's fourth example.
func TestCompareExamples(t *testing.T) {
	long := list("a", "x", "b", "y")
	for _, c := range []struct {
		a, b []api.Label
		want int
	}{{list("a", "x"), long, -1}, {list("a", "xy"), long, 1}, {list("a", "x"), list("ab", "a"), -1}} {
		if got := label.Compare(c.a, c.b); got != c.want {
			t.Errorf("Compare(%s, %s): %d", text(c.a), text(c.b), got)
		}
	}
}

// P13.2: Only keeps the order of the labels, and every label that has one of the names.
func TestOnly(t *testing.T) {
	l := list("c", "1", "a", "2", "b", "3", "a", "", "", "5", "\xff", "6")
	for _, c := range []struct {
		names []string
		want  []api.Label
	}{
		{nil, nil},
		{[]string{"a"}, list("a", "2", "a", "")},
		{[]string{"b", "c", "b", "q"}, list("c", "1", "b", "3")},
		{[]string{"", "\xff"}, list("", "5", "\xff", "6")},
		{[]string{"A", "aa", "q"}, nil},
		{[]string{"\xff", "", "b", "a", "c"}, l},
	} {
		same(t, "Only", label.Only(l, c.names), c.want)
	}
	same(t, "of none", label.Only(nil, []string{"a"}), nil)
}

// P13.2: long lists are gone through, too.
func TestOnlyOfLongLists(t *testing.T) {
	l := many(50000)
	var names []string
	for _, x := range slices.Backward(l) {
		names = append(names, x.Name)
	}
	if got := label.Only(l, names); !label.Equal(got, l) {
		t.Errorf("%d of %d", len(got), len(l))
	}
	if got := label.Only(l, names[10000:]); !label.Equal(got, l[:40000]) {
		t.Errorf("%d of 40000", len(got))
	}
}
