package pack_test

import (
	"bytes"
	"slices"
	"testing"

	"fathom/api"
	"fathom/pack"
)

// P7.4: what is handed in stays as it is, and what lies behind its length is not looked at.
func TestArgumentsStay(t *testing.T) { both(t, argumentsStay[uint64], argumentsStay[uint32]) }

func argumentsStay[T word](t *testing.T) {
	room := []T{99, 10, 20, 20, 40, 7, 7}
	want := bytesOf(rowOfColumn([]T{10, 20, 20, 40}))
	b, e := pack.Pack(room[1:5])
	if e != api.OK || !bytes.Equal(b, want) {
		t.Errorf("Pack: %x, %d; want %x", b, e, want)
	}
	if !slices.Equal(room, []T{99, 10, 20, 20, 40, 7, 7}) {
		t.Errorf("Pack has changed what it was given: %x", room)
	}
	space := append(append([]byte{0xee}, want...), 0xff, 0, 0xff)
	before := slices.Clone(space)
	unpacks(t, "with more behind the length", space[1:len(want)+1], []T{10, 20, 20, 40})
	refused[T](t, "too few, with more behind the length", space[1:len(want)], 4, api.ErrPackForm)
	if !bytes.Equal(space, before) {
		t.Errorf("Unpack has changed what it was given: %x", space)
	}
}

// P7.4: what is told is new memory, spare room too, and nothing of an argument.
func TestAnswersAreNew(t *testing.T) { both(t, answersAreNew[uint64], answersAreNew[uint32]) }

func answersAreNew[T word](t *testing.T) {
	l := []T{7, 10, 2000, 1 << 30, 1 << 30, 0}
	given := slices.Clone(l)
	b, _ := pack.Pack(given)
	again, _ := pack.Pack(given)
	kept := slices.Clone(b)
	fill(again[:cap(again)], 0x55)
	if !bytes.Equal(b, kept) {
		t.Error("two answers of Pack share memory")
	}
	m, _ := pack.Unpack[T](b, len(l))
	other, _ := pack.Unpack[T](b, len(l))
	fill(other[:cap(other)], 5)
	if !slices.Equal(m, l) || !bytes.Equal(b, kept) {
		t.Error("an answer of Unpack shares memory")
	}
	fill(b[:cap(b)], 0x55)
	if !slices.Equal(m, l) {
		t.Error("what Unpack told hangs on the bytes")
	}
	fill(m[:cap(m)], 5)
	if !slices.Equal(given, l) {
		t.Error("what Unpack told hangs on the values that were packed")
	}
	if p, e := pack.Pack(given); e != api.OK || !bytes.Equal(p, kept) {
		t.Error("the program has kept something")
	}
}

func fill[N any](l []N, x N) {
	for i := range l {
		l[i] = x
	}
}

// P7.4: calls at the same time have nothing in common.
func TestCallsAtTheSameTime(t *testing.T) {
	both(t, callsAtTheSameTime[uint64], callsAtTheSameTime[uint32])
}

func callsAtTheSameTime[T word](t *testing.T) {
	columns := samples[T]()[:200]
	done := make(chan bool)
	for range 4 {
		go func() {
			good := true
			for _, l := range columns {
				b, e := pack.Pack(l)
				m, f := pack.Unpack[T](b, len(l))
				good = good && e == api.OK && f == api.OK && slices.Equal(l, m)
			}
			done <- good
		}()
	}
	for range 4 {
		if !<-done {
			t.Error("they meet")
		}
	}
}
