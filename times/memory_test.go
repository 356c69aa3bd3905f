package times_test

import (
	"bytes"
	"slices"
	"testing"

	"fathom/api"
	"fathom/times"
)

// P6.4: what is handed in stays as it is, and what lies behind its length is not looked at.
func TestArgumentsStay(t *testing.T) {
	room := []int64{99, 10, 20, 30, 40, 7, 7}
	b, e := times.Pack(room[1:5])
	if e != api.OK || !bytes.Equal(b, []byte{0, 0, 0, 0, 0, 0, 0, 10, 0x89, 0x80}) {
		t.Errorf("Pack: %x, %d", b, e)
	}
	if !slices.Equal(room, []int64{99, 10, 20, 30, 40, 7, 7}) {
		t.Errorf("Pack has changed what it was given: %d", room)
	}
	space := append(append([]byte{0xee}, b...), 0xff, 0xff, 0xff)
	before := slices.Clone(space)
	l, e := times.Unpack(space[1:11], 4)
	if e != api.OK || !slices.Equal(l, []int64{10, 20, 30, 40}) {
		t.Errorf("Unpack: %d, %d", l, e)
	}
	refused(t, "too few, with more behind the length", space[1:10], 4, api.ErrTimesForm)
	if !bytes.Equal(space, before) {
		t.Errorf("Unpack has changed what it was given: %x", space)
	}
}

// P6.4: what is told is new memory, spare room too, and nothing of an argument.
func TestAnswersAreNew(t *testing.T) {
	l := []int64{-7, 10, 2000, 1 << 50}
	b, _ := times.Pack(l)
	again, _ := times.Pack(l)
	kept := slices.Clone(b)
	fill(again[:cap(again)], 0x55)
	if !bytes.Equal(b, kept) {
		t.Error("two answers of Pack share memory")
	}
	m, _ := times.Unpack(b, len(l))
	other, _ := times.Unpack(b, len(l))
	fill(other[:cap(other)], 5)
	if !slices.Equal(m, l) || !bytes.Equal(b, kept) {
		t.Error("an answer of Unpack shares memory")
	}
	fill(b[:cap(b)], 0x55)
	if !slices.Equal(m, l) {
		t.Error("what Unpack told hangs on the bytes")
	}
	fill(m[:cap(m)], 5)
	if !slices.Equal(l, []int64{-7, 10, 2000, 1 << 50}) {
		t.Error("what Unpack told hangs on the times that were packed")
	}
	if p, e := times.Pack(l); e != api.OK || !bytes.Equal(p, kept) {
		t.Error("the program has kept something")
	}
}

func fill[T any](l []T, x T) {
	for i := range l {
		l[i] = x
	}
}

// P6.4: calls at the same time have nothing in common.
func TestCallsAtTheSameTime(t *testing.T) {
	rows := samples()[:40]
	done := make(chan bool)
	for range 4 {
		go func() {
			good := true
			for _, l := range rows {
				b, e := times.Pack(l)
				m, f := times.Unpack(b, len(l))
				good = good && e == api.OK && f == api.OK && slices.Equal(l, m)
			}
			done <- good
		}()
	}
	for range 4 {
		if !<-done {
			t.Error("they meet")
		}
	}
}
