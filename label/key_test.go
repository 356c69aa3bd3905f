package label_test

import (
	"bytes"
	"math/rand"
	"slices"
	"strings"
	"testing"

	"fathom/api"
	"fathom/label"
)

// keyOf tells a set's key.
func keyOf(t *testing.T, l []api.Label) string {
	t.Helper()
	b, e := label.Key(l)
	if e != api.OK {
		t.Errorf("Key(%s): %d", text(l), e)
	}
	return string(b)
}

// isKey: these bytes are the set's key, there and back.
func isKey(t *testing.T, s string, l []api.Label) {
	t.Helper()
	if got := keyOf(t, l); got != s {
		t.Errorf("Key(%s): %x, want %x", text(l), got, s)
	}
	if got, e := label.OfKey([]byte(s)); text(got) != text(l) || e != api.OK {
		t.Errorf("OfKey(%x): %s, %d; want %s", s, text(got), e, text(l))
	}
}

// noKey: these bytes are no set's key.
func noKey(t *testing.T, s string) {
	t.Helper()
	if l, e := label.OfKey([]byte(s)); len(l) > 0 || e != api.ErrLabelForm {
		t.Errorf("OfKey(%.100q): %.200s, %d", s, text(l), e)
	}
}

// The chapter's third example, and what stands beside it.
func TestKeyExamples(t *testing.T) {
	isKey(t, "a\x00x\x00\x01", list("a", "x"))
	isKey(t, "a\x00\x00\xff\x00\x01", list("a", "\x00"))
	isKey(t, "", nil)
	isKey(t, "a\x00x\x00\x01b\x00\x01\x00\x01", list("a", "x", "b", "\x01"))
	isKey(t, "A_9\x00\x00\xff\x00\xff\x01\x00\xff\x00\x01", list("A_9", "\x00\x00\x01\x00"))
	isKey(t, strings.Repeat("n", 64)+"\x00"+strings.Repeat("\x00\xff", 256)+"\x00\x01", list(strings.Repeat("n", 64), strings.Repeat("\x00", 256)))
	for _, s := range []string{
		"a\x00\x00\x01", "a\x00x", "a", "a\x00", "a\x00x\x00", "\x00x\x00\x01", "b\x00x\x00\x01a\x00x\x00\x01", "a\x00x\x00\x01a\x00y\x00\x01", "a\x00x\x00\x01a\x00x\x00\x01",
		"1\x00x\x00\x01", "a\x00x\x00\x02", "a\x00x\x00\x00\x01", "a\x00x\x00\xfe\x00\x01", "a\x00\xff\x00\x01", "a\x00x\x00\x01b", "a\x00x\x00\x01\x00", "a\x00x\x00\xff", "a\x00x\x01", "a\x00\xed\xa0\x80\x00\x01", "\x00\x01", "\x00",
		strings.Repeat("n", 65) + "\x00x\x00\x01", "a\x00" + strings.Repeat("v", 257) + "\x00\x01", "a\x00" + strings.Repeat("\x00\xff", 257) + "\x00\x01", "a\x00\xc3\x00\xff\x00\x01",
	} {
		noKey(t, s)
	}
}

// P13.5: as many labels as a set may have, and one more.
func TestKeyOfMany(t *testing.T) {
	s := ""
	for _, x := range many(16) {
		s += x.Name + "\x00x\x00\x01"
	}
	isKey(t, s, many(16))
	noKey(t, s+"z\x00x\x00\x01")
	noKey(t, strings.Repeat("a\x00x\x00\x01", 100000))
}

// wantOfKey tells the labels of a key, and whether it is one: laid again they must tell the same bytes. (In a value a byte 0 is never followed by a 1, so its end is found at the first such pair.)
func wantOfKey(s string) ([]api.Label, bool) {
	rest := s
	var l []api.Label
	for rest != "" {
		name, value, _ := strings.Cut(rest, "\x00")
		end := strings.Index(value, "\x00\x01")
		if end < 0 {
			return nil, false
		}
		l = append(l, api.Label{Name: name, Value: strings.ReplaceAll(value[:end], "\x00\xff", "\x00")})
		rest = value[end+2:]
	}
	again := ""
	for _, x := range l {
		again += x.Name + "\x00" + strings.ReplaceAll(x.Value, "\x00", "\x00\xff") + "\x00\x01"
	}
	return l, again == s && wantSet(l)
}

// P13.5, P13.9: any bytes near keys: what is taken is Key of what is told.
func TestOfKeyOfAny(t *testing.T) {
	rnd := rand.New(rand.NewSource(136))
	taken := 0
	for range 200000 {
		s := ""
		for range rnd.Intn(9) {
			s += someOf(rnd, "a", "b", "\x00", "\x00", "\x01", "\xff", "x", "\x00\x01", "\x00\xff", "a\x00x\x00\x01", "b\x00x")
		}
		want, good := wantOfKey(s)
		if !good {
			noKey(t, s)
			continue
		}
		taken++
		isKey(t, s, want)
	}
	if taken < 1000 {
		t.Errorf("only %d keys", taken)
	}
}

// P13.5: a key with a byte changed, left out or put in.
func TestOfKeyOfChanged(t *testing.T) {
	s := keyOf(t, list("a", "x\x00", "b_", "\u00e9"))
	look := func(s string) {
		if want, good := wantOfKey(s); good {
			isKey(t, s, want)
		} else {
			noKey(t, s)
		}
	}
	for at := range len(s) {
		look(s[:at])
		look(s[:at] + s[at+1:])
		for c := range 256 {
			look(s[:at] + string([]byte{byte(c)}) + s[at+1:])
			look(s[:at] + string([]byte{byte(c)}) + s[at:])
		}
	}
}

// P13.9: one form: whatever the order of the labels, one set, one text, one key, each of which tells the set again.
func TestOneForm(t *testing.T) {
	rnd := rand.New(rand.NewSource(137))
	for range 5000 {
		l := setOf(rnd)
		makes(t, l, l)
		mixed := slices.Clone(l)
		rnd.Shuffle(len(mixed), func(i, j int) { mixed[i], mixed[j] = mixed[j], mixed[i] })
		makes(t, mixed, l)
		s, e := label.Text(l)
		again, f := label.Parse(s)
		if e != api.OK || f != (api.Fault{}) || !label.Equal(again, l) {
			t.Errorf("Parse(%s): %s, %v; Text's error %d", s, text(again), f, e)
		}
		isKey(t, keyOf(t, l), l)
	}
}

// P13.9: two sets are Equal just if their texts are, just if their keys are; keys stand in the order of sets.
func TestKeysStandInOrder(t *testing.T) {
	rnd := rand.New(rand.NewSource(138))
	alike := 0
	for range 50000 {
		a, b := setOf(rnd), setOf(rnd)
		if rnd.Intn(2) == 0 && len(a) > 0 {
			b = slices.Clone(a)
			at := rnd.Intn(len(b))
			switch rnd.Intn(4) {
			case 0:
				b[at].Value += someValue(rnd)
			case 1:
				b = b[:at]
			case 2:
				b[at].Value = someValue(rnd)
			}
		}
		one, _ := label.Text(a)
		two, _ := label.Text(b)
		x, y := keyOf(t, a), keyOf(t, b)
		equal := label.Equal(a, b)
		if equal != (one == two) || equal != (x == y) || label.Compare(a, b) != bytes.Compare([]byte(x), []byte(y)) {
			t.Errorf("%s, %s: %t, %d; keys %x, %x", one, two, equal, label.Compare(a, b), x, y)
		}
		if equal {
			alike++
		}
	}
	if alike < 1000 {
		t.Errorf("only %d alike", alike)
	}
}
