package code_test

import (
	"bytes"
	"slices"
	"testing"

	"fathom/api"
	"fathom/code"
)

// P8.5: what is handed in stays as it is, and what lies behind its length is not looked at.
func TestArgumentsStay(t *testing.T) { both(t, argumentsStay[uint64], argumentsStay[uint32]) }

func argumentsStay[T word](t *testing.T) {
	l := []T{read[T]("1"), read[T]("1"), read[T]("2.5"), ^T(0), read[T]("1")}
	room := append(append([]T{99}, l...), ^T(0), 7)
	before := slices.Clone(room)
	for _, kind := range kinds() {
		row, _ := rowOfColumn(kind, l)
		want := bytesOf(row)
		if b, e := code.Pack(kind, room[1:6]); e != api.OK || !bytes.Equal(b, want) {
			t.Errorf("Pack(%d): %x, %d; want %x", kind, b, e, want)
		}
		space := append(append([]byte{0xee}, want...), 0xff, 0, 0xff)
		kept := slices.Clone(space)
		unpacks(t, "with more behind the length", kind, space[1:len(want)+1], l)
		refused[T](t, "too few, with more behind the length", kind, space[1:len(want)], 5, api.ErrCodeForm)
		if !bytes.Equal(space, kept) {
			t.Errorf("Unpack(%d) has changed what it was given: %x", kind, space)
		}
	}
	sizes, _ := code.Sizes(room[1:6])
	wanted, _ := code.Sizes(l)
	kind, b, _ := code.Best(room[1:6])
	wantedKind, wantedBytes, _ := code.Best(l)
	if !slices.Equal(sizes, wanted) || kind != wantedKind || !bytes.Equal(b, wantedBytes) {
		t.Error("what lies behind the length is looked at")
	}
	if !slices.Equal(room, before) {
		t.Errorf("values that were given have changed: %x", room)
	}
}

// P8.5: what is told is new memory, spare room too, and nothing of an argument.
func TestAnswersAreNew(t *testing.T) { both(t, answersAreNew[uint64], answersAreNew[uint32]) }

func answersAreNew[T word](t *testing.T) {
	l := []T{7, 10, 2000, 1 << 30, 1 << 30, read[T]("1.5")}
	for _, kind := range kinds() {
		given := slices.Clone(l)
		b, _ := code.Pack(kind, given)
		again, _ := code.Pack(kind, given)
		kept := slices.Clone(b)
		fill(again[:cap(again)], 0x55)
		if !bytes.Equal(b, kept) {
			t.Errorf("two answers of Pack(%d) share memory", kind)
		}
		m, _ := code.Unpack[T](kind, b, len(l))
		other, _ := code.Unpack[T](kind, b, len(l))
		fill(other[:cap(other)], 5)
		if !slices.Equal(m, l) || !bytes.Equal(b, kept) {
			t.Errorf("an answer of Unpack(%d) shares memory", kind)
		}
		fill(b[:cap(b)], 0x55)
		if !slices.Equal(m, l) {
			t.Errorf("what Unpack(%d) told hangs on the bytes", kind)
		}
		fill(m[:cap(m)], 5)
		if !slices.Equal(given, l) {
			t.Errorf("what Unpack(%d) told hangs on the values that were packed", kind)
		}
		if p, e := code.Pack(kind, given); e != api.OK || !bytes.Equal(p, kept) {
			t.Errorf("Pack(%d) has kept something", kind)
		}
	}
}

// P8.5: answers of Sizes and Best, likewise.
func TestSizesAndBestAreNew(t *testing.T) {
	l := []uint64{10, 20, 30, 41}
	sizes, _ := code.Sizes(l)
	kept := slices.Clone(sizes)
	other, _ := code.Sizes(l)
	fill(other[:cap(other)], 77)
	_, b, _ := code.Best(l)
	_, c, _ := code.Best(l)
	fill(c[:cap(c)], 0x55)
	again, _ := code.Sizes(l)
	if !slices.Equal(sizes, kept) || !slices.Equal(again, kept) || !bytes.Equal(b, []byte{20, 20, 0, 2}) {
		t.Errorf("answers share memory: %d, %d, %x", sizes, again, b)
	}
}

func fill[N any](l []N, x N) {
	for i := range l {
		l[i] = x
	}
}

// P8.5: calls at the same time have nothing in common.
func TestCallsAtTheSameTime(t *testing.T) {
	both(t, callsAtTheSameTime[uint64], callsAtTheSameTime[uint32])
}

func callsAtTheSameTime[T word](t *testing.T) {
	columns := samples[T]()[:200]
	done := make(chan bool)
	for range 4 {
		go func() {
			good := true
			for _, l := range columns {
				kind, b, e := code.Best(l)
				m, f := code.Unpack[T](kind, b, len(l))
				good = good && e == api.OK && f == api.OK && slices.Equal(l, m)
			}
			done <- good
		}()
	}
	for range 4 {
		if !<-done {
			t.Error("they meet")
		}
	}
}
