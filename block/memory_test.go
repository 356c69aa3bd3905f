package block_test

import (
	"bytes"
	"slices"
	"testing"

	"fathom/api"
	"fathom/block"
)

// P9.5: what is handed in stays as it is, and what lies behind its length is not looked at.
func TestArgumentsStay(t *testing.T) {
	for _, kind := range kinds() {
		for _, l := range few(kind) {
			room := append(append([]api.Point{{T: 99, V: 1}}, l...), api.Point{T: -99, V: 1}, api.Point{T: -99, V: 1})
			before := slices.Clone(room)
			given := room[1 : len(l)+1]
			b := encodes(t, kind, given)
			space := append(append([]byte{0xee}, b...), 0xff, 0, 0xff)
			kept := slices.Clone(space)
			if k, m, e := block.Decode(space[1 : len(b)+1]); k != kind || !slices.Equal(m, l) || e != api.OK {
				t.Fatalf("%x: %x, %d", b, m, e)
			}
			refused(t, "too few, with more behind the length", space[1:len(b)], api.ErrBlockShort)
			headRefused(t, "too few, with more behind the length", space[1:51], api.ErrBlockShort)
			if block.Sum(space[1:len(b)+1]) != block.Sum(b) {
				t.Error("Sum looks behind the length")
			}
			if !slices.Equal(room, before) || !bytes.Equal(space, kept) {
				t.Fatal("what was given has changed")
			}
		}
	}
}

// P9.5: what is told is new memory, spare room too, and nothing of an argument; nothing is kept.
func TestAnswersAreNew(t *testing.T) {
	for _, kind := range kinds() {
		for _, l := range few(kind) {
			given := slices.Clone(l)
			b, _ := block.Encode(kind, given)
			again, _ := block.Encode(kind, given)
			kept := slices.Clone(b)
			fill(again[:cap(again)], 0x55)
			_, m, _ := block.Decode(b)
			_, other, _ := block.Decode(b)
			fill(other[:cap(other)], api.Point{T: 1, V: 2})
			if !bytes.Equal(b, kept) || !slices.Equal(m, l) || !slices.Equal(given, l) {
				t.Fatal("two answers share memory")
			}
			fill(b[:cap(b)], 0x55)
			if !slices.Equal(m, l) {
				t.Fatal("points hang on the bytes that they were read from")
			}
			fill(m[:cap(m)], api.Point{T: 3, V: 4})
			if b, e := block.Encode(kind, given); e != api.OK || !bytes.Equal(b, kept) {
				t.Fatal("something was kept")
			}
		}
	}
}

func fill[N any](l []N, x N) {
	for i := range l {
		l[i] = x
	}
}

// P9.5: nil and empty lists are one.
func TestNilAndEmpty(t *testing.T) {
	if block.Sum(nil) != block.Sum([]byte{}) {
		t.Error("Sum")
	}
	headRefused(t, "nil", nil, api.ErrBlockShort)
	headRefused(t, "empty", []byte{}, api.ErrBlockShort)
	notEncoded(t, api.KindWide, nil, api.ErrBlockCount)
	notEncoded(t, api.KindWide, []api.Point{}, api.ErrBlockCount)
}

// P9.5: calls at the same time have nothing in common.
func TestCallsAtTheSameTime(t *testing.T) {
	lists := samples(api.KindNarrow)[:200]
	done := make(chan bool)
	for range 4 {
		go func() {
			good := true
			for _, l := range lists {
				b, e := block.Encode(api.KindNarrow, l)
				kind, m, f := block.Decode(b)
				good = good && e == api.OK && f == api.OK && kind == api.KindNarrow && slices.Equal(l, m)
			}
			done <- good
		}()
	}
	for range 4 {
		if !<-done {
			t.Error("they meet")
		}
	}
}
