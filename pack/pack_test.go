package pack_test

import (
	"bytes"
	"strings"
	"testing"

	"fathom/api"
	"fathom/pack"
)

// The chapter's example 1, written out by hand.
func TestExampleOf32(t *testing.T) {
	l := []uint32{0x3f800000, 0x3f800000, 0x40000000, 0xbf800000}
	want := []byte{0x3f, 0x80, 0x00, 0x00, 0b0_11_00001, 0b00111_111, 0b11111_11_0, 0b0000_0100, 0b0_1111111, 0b11_000000}
	if b, e := pack.Pack(l); e != api.OK || !bytes.Equal(b, want) {
		t.Errorf("Pack: %x, %d; want %x", b, e, want)
	}
	unpacks(t, "example 1", want, l)
}

// The chapter's examples 2 to 4, written out by hand.
func TestExamplesOf64(t *testing.T) {
	for _, c := range []struct {
		l   []uint64
		row string
	}{
		{[]uint64{1, 0, 8}, strings.Repeat("0", 63) + "1" + "1 1 111111 000000 1" + "1 1 111100 000000 1"},
		{[]uint64{0, 0xf0, 0xf1, 0xe1}, strings.Repeat("0", 64) + "1 1 111000 000011 1111" + "1 1 111111 000000 1" + "1 1 111011 000000 1"},
		{[]uint64{0, 0xff00, 0, 0x100}, strings.Repeat("0", 64) + "1 1 110000 000111 11111111" + "1 0 11111111" + "1 0 00000001"},
	} {
		want := bytesOf(strings.ReplaceAll(c.row, " ", ""))
		if b, e := pack.Pack(c.l); e != api.OK || !bytes.Equal(b, want) {
			t.Errorf("Pack(%x): %x, %d; want %x", c.l, b, e, want)
		}
		unpacks(t, "an example", want, c.l)
	}
}

// P7.1, P7.2, P7.3: the chapter's bits, there and back: NaNs with payloads, noughts with signs among them.
func TestPackLaysTheBits(t *testing.T) { both(t, packLaysTheBits[uint64], packLaysTheBits[uint32]) }

func packLaysTheBits[T word](t *testing.T) {
	for _, l := range samples[T]() {
		packs(t, l)
	}
	edges := edgeValues[T]()
	for _, a := range edges {
		for _, b := range edges {
			packs(t, []T{a, b})
			packs(t, []T{a, b, a, a, b})
		}
	}
}

// P7.1: each window there is, as a first one.
func TestEachWindow(t *testing.T) { both(t, eachWindow[uint64], eachWindow[uint32]) }

func eachWindow[T word](t *testing.T) {
	w, _ := shape[T]()
	for lead := range w {
		for length := 1; length <= w-lead; length++ {
			for _, within := range []T{0, ^T(0), ^T(0) / 3} {
				x := windowed(lead, length, within)
				packs(t, []T{0, x})
				packs(t, []T{^T(0) / 5, ^T(0)/5 ^ x, ^T(0) / 5})
				row := rowOfColumn([]T{0, x})
				if !strings.HasPrefix(row[w:], rowOfWindow[T](lead, length)) {
					t.Fatalf("lead %d, length %d are not tried: %s", lead, length, row)
				}
			}
		}
	}
}

// P7.1: each pair of windows whose ends are near each other, or near the value's ends.
func TestPairsOfWindows(t *testing.T) { both(t, pairsOfWindows[uint64], pairsOfWindows[uint32]) }

func pairsOfWindows[T word](t *testing.T) {
	w, k := shape[T]()
	for _, old := range [][2]int{{0, w}, {0, 1}, {w - 1, 1}, {1, w - 2}, {0, 2*k + 1}, {0, 2*k + 2}, {0, 2*k + 3}, {w / 3, 2*k + 1}, {w / 3, 2*k + 2}, {w - 2*k - 2, 2*k + 2}, {3, 5}, {w / 2, 2}} {
		for lead := range w {
			for length := 1; length <= w-lead; length++ {
				a, b := windowed(old[0], old[1], T(0)), windowed(lead, length, ^T(0)/3)
				packs(t, []T{7, 7 ^ a, 7 ^ a ^ b})
			}
		}
	}
}

// P7.1: an old window is taken if it is at most 2 K longer, wherever the new one lies in it.
func TestOldWindowTwoFieldsLonger(t *testing.T) {
	both(t, oldWindowTwoFieldsLonger[uint64], oldWindowTwoFieldsLonger[uint32])
}

func oldWindowTwoFieldsLonger[T word](t *testing.T) {
	w, k := shape[T]()
	for length := 1; length <= w-2*k; length++ {
		for more := 2*k - 1; more <= 2*k+1 && length+more <= w; more++ {
			want := "10"
			if more > 2*k {
				want = "11"
			}
			for lead := 0; lead+length+more <= w; lead++ {
				for _, place := range []int{lead, lead + more/2, lead + more} {
					a, b := windowed(lead, length+more, T(0)), windowed(place, length, ^T(0))
					at := len(rowOfColumn([]T{0, a}))
					packed, e := pack.Pack([]T{0, a, a ^ b})
					if row := rowOfBytes(packed); e != api.OK || row[at:at+2] != want {
						t.Fatalf("%d in %d: %s, not %s", length, length+more, row[at:], want)
					}
					packs(t, []T{0, a, a ^ b})
				}
			}
		}
	}
}

// P7.1: what doesn't fit the old window by one bit on either side lays a new one.
func TestOldWindowIsLeft(t *testing.T) { both(t, oldWindowIsLeft[uint64], oldWindowIsLeft[uint32]) }

func oldWindowIsLeft[T word](t *testing.T) {
	w, _ := shape[T]()
	for lead := 1; lead < w-1; lead++ {
		for length := 1; lead+length < w; length++ {
			a := windowed(lead, length, T(0))
			for _, b := range []T{windowed(lead-1, length+1, T(0)), windowed(lead, length+1, T(0)), windowed(lead-1, 1, T(0)), windowed(lead+length, 1, T(0)), windowed(lead-1, length+2, ^T(0))} {
				at := len(rowOfColumn([]T{9, 9 ^ a}))
				packed, e := pack.Pack([]T{9, 9 ^ a, 9 ^ a ^ b})
				if row := rowOfBytes(packed); e != api.OK || row[at:at+2] != "11" {
					t.Fatalf("%x behind %x: %s", b, a, row[at:])
				}
				packs(t, []T{9, 9 ^ a, 9 ^ a ^ b})
			}
		}
	}
}

// P7.1: the old window is the one that was laid last: what is laid in it, and equal values, leave it as it is.
func TestWhichWindowIsOld(t *testing.T) { both(t, whichWindowIsOld[uint64], whichWindowIsOld[uint32]) }

func whichWindowIsOld[T word](t *testing.T) {
	w, _ := shape[T]()
	for _, c := range []struct {
		xs  []T
		row string
	}{
		{[]T{0xff, 0x10, 0x80, 0x01}, rowOfWindow[T](w-8, 8) + "11111111" + "1000010000" + "1010000000" + "1000000001"},
		{[]T{0xff, 0, 0, 0x18, 0, 0x81}, rowOfWindow[T](w-8, 8) + "11111111" + "00" + "1000011000" + "0" + "1010000001"},
		{[]T{0x0f, 0xf0, 0x0f}, rowOfWindow[T](w-4, 4) + "1111" + rowOfWindow[T](w-8, 4) + "1111" + rowOfWindow[T](w-4, 4) + "1111"},
		{[]T{0, 0x02, 0, 0x02, 0x04, 0x04}, "0" + rowOfWindow[T](w-2, 1) + "1" + "0" + "101" + rowOfWindow[T](w-3, 1) + "1" + "101"},
		{[]T{0x3ffff, 0x10, 0x3ffff}, rowOfWindow[T](w-18, 18) + strings.Repeat("1", 18) + rowOfWindow[T](w-5, 1) + "1" + rowOfWindow[T](w-18, 18) + strings.Repeat("1", 18)},
	} {
		l := []T{0x1234567}
		for _, x := range c.xs {
			l = append(l, l[len(l)-1]^x)
		}
		b, e := pack.Pack(l)
		if want := bytesOf(rowOfValue(l[0]) + c.row); e != api.OK || !bytes.Equal(b, want) {
			t.Errorf("%x: %x, %d; want %x", c.xs, b, e, want)
		}
		packs(t, l)
	}
}

// P7.1: so many values may be, and no more.
func TestPackCounts(t *testing.T) { both(t, packCounts[uint64], packCounts[uint32]) }

func packCounts[T word](t *testing.T) {
	l := make([]T, api.MaxColumn+2)
	for i := range l {
		l[i] = T(i*i) * 77777
	}
	packs(t, l[:api.MaxColumn-1])
	packs(t, l[:api.MaxColumn])
	packs(t, make([]T, api.MaxColumn))
	for _, many := range [][]T{l[:api.MaxColumn+1], l, make([]T, api.MaxColumn+1), make([]T, 1<<20)} {
		if b, e := pack.Pack(many); len(b) != 0 || e != api.ErrPackCount {
			t.Errorf("of %d values: %x, %d", len(many), b, e)
		}
	}
}

// P7.3: equal values take one bit each behind the first.
func TestEqualValuesTakeOneBit(t *testing.T) {
	both(t, equalValuesTakeOneBit[uint64], equalValuesTakeOneBit[uint32])
}

func equalValuesTakeOneBit[T word](t *testing.T) {
	w, _ := shape[T]()
	for _, v := range edgeValues[T]() {
		for _, n := range []int{1, 2, 8, 9, 10, 17, 100, api.MaxColumn} {
			l := make([]T, n)
			for i := range l {
				l[i] = v
			}
			want := bytesOf(rowOfValue(v) + strings.Repeat("0", n-1))
			if b, e := pack.Pack(l); e != api.OK || len(b) != (w+n-1+7)/8 || !bytes.Equal(b, want) {
				t.Errorf("%d times %x: %x, %d", n, v, b, e)
			}
			unpacks(t, "equal ones", want, l)
		}
	}
}

// P7.3: a column's bytes begin as those of each of its beginnings, but for the spare bits.
func TestBeginnings(t *testing.T) { both(t, beginnings[uint64], beginnings[uint32]) }

func beginnings[T word](t *testing.T) {
	for _, l := range samples[T]() {
		b, _ := pack.Pack(l)
		for n := range min(len(l), 50) {
			part, e := pack.Pack(l[:n])
			size := len(rowOfColumn(l[:n]))
			if e != api.OK || len(part) != (size+7)/8 || !bytes.Equal(part[:size/8], b[:size/8]) {
				t.Fatalf("the first %d of %x: %x, %d, not as %x", n, l, part, e, b)
			}
			if rest := size % 8; rest > 0 && (part[size/8]^b[size/8])>>(8-rest) != 0 {
				t.Fatalf("the first %d of %x: %x, not as %x", n, l, part, b)
			}
		}
	}
}

// P7.3: a column whose values are all changed by the same bits has as many bytes; behind the first value they are the same.
func TestChangedBySameBits(t *testing.T) {
	both(t, changedBySameBits[uint64], changedBySameBits[uint32])
}

func changedBySameBits[T word](t *testing.T) {
	w, _ := shape[T]()
	for _, l := range samples[T]() {
		if len(l) == 0 {
			continue
		}
		b, _ := pack.Pack(l)
		for _, by := range []T{1, ^T(0), T(1) << (w - 1), l[0], ^T(0) / 3} {
			changed := make([]T, len(l))
			for i := range l {
				changed[i] = l[i] ^ by
			}
			c, e := pack.Pack(changed)
			if e != api.OK || len(c) != len(b) || !bytes.Equal(c[w/8:], b[w/8:]) {
				t.Fatalf("%x changed by %x: %x, %d, not %x", l, by, c, e, b)
			}
		}
	}
}

// P7.4: columns of the two widths have unlike bytes of the same numbers; those of none have none.
func TestWidthsAreUnlike(t *testing.T) {
	columns := samples[uint32]()
	for n := 1; n < 140; n++ {
		columns = append(columns, make([]uint32, n), append(make([]uint32, n), 1), append(make([]uint32, n), 1<<31, 0, 5))
	}
	for _, l := range columns {
		wide := make([]uint64, len(l))
		for i := range l {
			wide[i] = uint64(l[i])
		}
		a, _ := pack.Pack(l)
		b, _ := pack.Pack(wide)
		if bytes.Equal(a, b) != (len(l) == 0) {
			t.Fatalf("%x: %x, %x", l, a, b)
		}
	}
}
