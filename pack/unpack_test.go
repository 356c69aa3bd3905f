package pack_test

import (
	"bytes"
	"math"
	"math/rand"
	"slices"
	"strings"
	"testing"

	"fathom/api"
	"fathom/pack"
)

// The chapter's example 5.
func TestExampleOfUnpack(t *testing.T) {
	refused[uint64](t, "none of none", nil, 0, api.OK)
	refused[uint64](t, "none of one", nil, 1, api.ErrPackForm)
	refused[uint64](t, "too many", []byte{0, 0, 0, 0, 0, 0, 0, 5}, 4097, api.ErrPackCount)
}

// P7.2: n is looked at first, whatever the bytes are.
func TestUnpackCounts(t *testing.T) { both(t, unpackCounts[uint64], unpackCounts[uint32]) }

func unpackCounts[T word](t *testing.T) {
	good := bytesOf(rowOfColumn([]T{10, 20, 30, 40}))
	for _, n := range []int{-1, math.MinInt, math.MinInt32, api.MaxColumn + 1, 1 << 32, math.MaxInt} {
		for _, b := range [][]byte{nil, {0}, good, bytes.Repeat([]byte{0xff}, 100), make([]byte, 1<<20)} {
			refused[T](t, "a count that may not be", b, n, api.ErrPackCount)
		}
	}
	refused[T](t, "as many as may be, of few bytes", good, api.MaxColumn, api.ErrPackForm)
	refused[T](t, "as many as may be, of none", nil, api.MaxColumn, api.ErrPackForm)
	refused[T](t, "fewer than there are", good, 3, api.ErrPackForm)
}

// P7.2: of no values there are no bytes, of one there are its own.
func TestUnpackNoneAndOne(t *testing.T) {
	both(t, unpackNoneAndOne[uint64], unpackNoneAndOne[uint32])
}

func unpackNoneAndOne[T word](t *testing.T) {
	w, _ := shape[T]()
	refused[T](t, "none", []byte{}, 0, api.OK)
	for size := 1; size < 20; size++ {
		for _, x := range []byte{0, 1, 0x80, 0xff} {
			b := bytes.Repeat([]byte{x}, size)
			refused[T](t, "of no values", b, 0, api.ErrPackForm)
			if size != w/8 {
				refused[T](t, "of one value", b, 1, api.ErrPackForm)
			}
		}
	}
	for _, v := range edgeValues[T]() {
		unpacks(t, "of one value", bytesOf(rowOfValue(v)), []T{v})
	}
}

// form is bits behind a first value, of so many values, and whether Pack lays them so.
type form struct {
	name string
	row  string
	n    int
	ok   bool
}

// forms are what a reader must tell apart, one thing each.
func forms[T word]() []form {
	w, k := shape[T]()
	at := rowOfWindow[T]
	first := at(w-8, 8) + "10000001"
	wide := at(1, w-2) + "1" + strings.Repeat("0", w-4) + "1"
	ones := func(n int) string { return strings.Repeat("1", n) }
	noughts := func(n int) string { return strings.Repeat("0", n) }
	return []form{
		{"no old window", "10", 1, false},
		{"no old window, bits behind", "10" + ones(w), 1, false},
		{"no old window behind equal values", "00010" + ones(w), 4, false},
		{"an old window", first + "10" + "10000001", 2, true},
		{"nought in a new window", at(w-8, 8) + "00000000", 1, false},
		{"nought in a new window of one", at(w-1, 1) + "0", 1, false},
		{"nought in the old window", first + "10" + "00000000", 2, false},
		{"a window that begins with a nought", at(w-8, 8) + "01111111", 1, false},
		{"a window that ends with a nought", at(w-8, 8) + "11111110", 1, false},
		{"a window with noughts at both ends", at(w-8, 8) + "01111110", 1, false},
		{"a second window that ends with a nought", first + at(w-9, 9) + "100000000", 2, false},
		{"the whole value", at(0, w) + ones(w), 1, true},
		{"one bit beyond the value", at(1, w) + ones(w), 1, false},
		{"one bit beyond its end", at(w-1, 2) + "11", 1, false},
		{"far beyond the value", at(w-1, w) + ones(w), 1, false},
		{"far beyond the value, behind an old window", first + at(w-1, w) + ones(w), 2, false},
		{"the old window again", first + at(w-8, 8) + "10000001", 2, false},
		{"a window within the old one", first + at(w-7, 2) + "11", 2, false},
		{"one bit within the old one", first + at(w-1, 1) + "1", 2, false},
		{"that bit in the old one", first + "10" + "00000001", 2, true},
		{"a window that leaves the old one ahead", first + at(w-9, 2) + "11", 2, true},
		{"a bit within one that is 2 K longer", at(0, 2*k+1) + ones(2*k+1) + at(3, 1) + "1", 2, false},
		{"that bit in the old one, 2 K longer", at(0, 2*k+1) + ones(2*k+1) + "10" + "0001" + noughts(2*k-3), 2, true},
		{"a bit within one that is 2 K + 1 longer", at(0, 2*k+2) + ones(2*k+2) + at(3, 1) + "1", 2, true},
		{"that bit in the old one, 2 K + 1 longer", at(0, 2*k+2) + ones(2*k+2) + "10" + "0001" + noughts(2*k-2), 2, false},
		{"a bit in an old one as wide as may be", wide + "10" + "1" + noughts(w-3), 2, false},
		{"so much in that one that it is 2 K longer", wide + "10" + noughts(2*k) + ones(w-2-2*k), 2, true},
		{"one bit less in that one", wide + "10" + noughts(2*k+1) + ones(w-3-2*k), 2, false},
		{"a new window, then the one ahead of it", first + at(w-9, 2) + "11" + "10" + "10000001", 3, false},
		{"equal values behind the old window", first + "0000" + "10" + "01100000", 6, true},
	}
}

// P7.2: each way in which bits may be laid otherwise than Pack does is refused, whatever stands behind it.
func TestForms(t *testing.T) { both(t, testForms[uint64], testForms[uint32]) }

func testForms[T word](t *testing.T) {
	for _, f := range forms[T]() {
		for _, v := range []T{0, 5, ^T(0)} {
			for equal := range 9 {
				b := bytesOf(rowOfValue(v) + f.row + strings.Repeat("0", equal))
				n := 1 + f.n + equal
				if taken := judged[T](t, f.name, b, n); taken != f.ok {
					t.Errorf("%s, %d behind: %v", f.name, equal, taken)
				}
			}
		}
	}
}

// P7.2: too few bytes, and too many.
func TestUnpackWantsAllBytes(t *testing.T) {
	both(t, unpackWantsAllBytes[uint64], unpackWantsAllBytes[uint32])
}

func unpackWantsAllBytes[T word](t *testing.T) {
	for _, l := range samples[T]()[:400] {
		b := bytesOf(rowOfColumn(l))
		for size := range b {
			refused[T](t, "a beginning", b[:size], len(l), api.ErrPackForm)
		}
		for _, more := range [][]byte{{0}, {1}, {0x80}, {0xff}, {0, 0, 0, 0, 0, 0, 0, 0}} {
			refused[T](t, "more behind", append(slices.Clone(b), more...), len(l), api.ErrPackForm)
		}
	}
}

// P7.2: each spare bit is 0.
func TestUnpackWantsSpareNoughts(t *testing.T) {
	both(t, unpackWantsSpareNoughts[uint64], unpackWantsSpareNoughts[uint32])
}

func unpackWantsSpareNoughts[T word](t *testing.T) {
	for _, l := range samples[T]()[:400] {
		row := rowOfColumn(l)
		for spare := len(row); spare%8 != 0; spare++ {
			b := bytesOf(row)
			b[spare/8] |= 128 >> (spare % 8)
			refused[T](t, "a spare bit of 1", b, len(l), api.ErrPackForm)
		}
	}
}

// P7.2: a value that is cut off anywhere, behind whole bytes.
func TestUnpackWantsWholeValues(t *testing.T) {
	both(t, unpackWantsWholeValues[uint64], unpackWantsWholeValues[uint32])
}

func unpackWantsWholeValues[T word](t *testing.T) {
	w, _ := shape[T]()
	start := rowOfValue(T(5)) + rowOfWindow[T](w-20, 9) + "101010101"
	for _, next := range []string{"10100000001", rowOfWindow[T](0, w) + strings.Repeat("1", w), rowOfWindow[T](0, 1) + "1"} {
		for cut := range next {
			equal := (16 - (len(start)+cut)%8) % 8
			b := bytesOf(start + strings.Repeat("0", equal) + next[:cut])
			refused[T](t, "cut off", b, 3+equal, api.ErrPackForm)
		}
		for equal := range 8 {
			b := bytesOf(start + strings.Repeat("0", equal) + next)
			if !judged[T](t, "whole", b, 3+equal) {
				t.Errorf("%s behind %d equal ones is refused", next, equal)
			}
		}
	}
}

// P7.2, P7.3: what Unpack takes is what Pack tells of it, whichever bit is changed: no values have two forms.
func TestOneForm(t *testing.T) { both(t, oneForm[uint64], oneForm[uint32]) }

func oneForm[T word](t *testing.T) {
	taken := 0
	for _, l := range samples[T]()[:150] {
		b := bytesOf(rowOfColumn(l))
		for at := range 8 * len(b) {
			c := slices.Clone(b)
			c[at/8] ^= 128 >> (at % 8)
			if !judged[T](t, "a changed bit", c, len(l)) {
				continue
			}
			taken++
			if m, _ := pack.Unpack[T](c, len(l)); slices.Equal(l, m) {
				t.Fatalf("%x has two forms: %x, %x", l, b, c)
			}
		}
	}
	if taken < 1000 {
		t.Errorf("only %d were taken", taken)
	}
}

// P7.2, P7.3: of any bits behind a first value, built of fields that may be wrong, just what Pack tells is taken.
func TestAnyFields(t *testing.T) { both(t, anyFields[uint64], anyFields[uint32]) }

func anyFields[T word](t *testing.T) {
	w, _ := shape[T]()
	rnd := rand.New(rand.NewSource(71))
	taken, missed := 0, 0
	for range 40000 {
		row := rowOfValue(anyWindowed[T](rnd))
		n, length := 1+rnd.Intn(5), 1+rnd.Intn(w)
		for range n {
			kind := rnd.Intn(4)
			if kind == 0 {
				row += "0"
				continue
			}
			if kind == 1 {
				row += "10"
			} else {
				length = 1 + rnd.Intn(w)
				row += rowOfWindow[T](rnd.Intn(w-length+min(length, 2)), length)
			}
			x := T(rnd.Uint64()) >> (w - length)
			if rnd.Intn(4) > 0 {
				x |= 1 | T(1)<<(length-1)
			}
			row += rowOf(x, length)
		}
		if judged[T](t, "any fields", bytesOf(row), n+1) {
			taken++
		} else {
			missed++
		}
	}
	if taken < 1000 || missed < 1000 {
		t.Errorf("%d were taken, %d not", taken, missed)
	}
}

// P7.2, P7.4: whatever the bytes are, Unpack ends, and takes just what Pack tells.
func TestAnyBytes(t *testing.T) { both(t, anyBytes[uint64], anyBytes[uint32]) }

func anyBytes[T word](t *testing.T) {
	w, _ := shape[T]()
	rnd := rand.New(rand.NewSource(72))
	taken := 0
	for range 100000 {
		b := make([]byte, w/8-1+rnd.Intn(14))
		for i := range b {
			b[i] = []byte{0, 1, 0x7f, 0x80, 0x81, 0xc0, 0xff, byte(rnd.Intn(256))}[rnd.Intn(8)]
		}
		if judged[T](t, "any bytes", b, rnd.Intn(20)) {
			taken++
		}
	}
	if taken < 500 {
		t.Errorf("only %d were taken", taken)
	}
	for _, b := range [][]byte{make([]byte, 1<<20), bytes.Repeat([]byte{0xff}, 1<<20), bytes.Repeat([]byte{0xaa}, 1<<20)} {
		refused[T](t, "many bytes", b, api.MaxColumn, api.ErrPackForm)
	}
}

// P7.3: of two columns of as many values no bytes are the same, though of another number of values they may be.
func TestNoTwoHaveTheSameBytes(t *testing.T) {
	both(t, noTwoHaveTheSameBytes[uint64], noTwoHaveTheSameBytes[uint32])
}

func noTwoHaveTheSameBytes[T word](t *testing.T) {
	w, _ := shape[T]()
	seen := map[string][]T{}
	for a := T(0); a < 3; a++ {
		for b := T(0); b < 64; b++ {
			for c := T(0); c < 64; c++ {
				for _, l := range [][]T{{a, b, c}, {a, b << (w - 6), c << (w - 7)}} {
					p, _ := pack.Pack(l)
					if other, found := seen[string(p)]; found && !slices.Equal(other, l) {
						t.Fatalf("%x and %x: %x", other, l, p)
					}
					seen[string(p)] = l
				}
			}
		}
	}
	same, _ := pack.Pack([]T{10, 10})
	for n := 2; n <= 9; n++ {
		unpacks(t, "equal ones", same, slices.Repeat([]T{10}, n))
	}
	refused[T](t, "a tenth", same, 10, api.ErrPackForm)
}

// P7.4: bytes of one width, read as those of the other, are another column, or none.
func TestOtherWidth(t *testing.T) {
	for _, l := range samples[uint64]()[:300] {
		b, _ := pack.Pack(l)
		judged[uint32](t, "as uint32s", b, len(l))
	}
	for _, l := range samples[uint32]()[:300] {
		b, _ := pack.Pack(l)
		judged[uint64](t, "as uint64s", b, len(l))
	}
}
