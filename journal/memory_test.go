package journal_test

import (
	"bytes"
	"strings"
	"sync"
	"testing"

	"fathom/api"
	"fathom/journal"
)

// R2: what is handed in stays as it is and is not kept; what lies behind its length is neither read nor written.
func TestArgumentsStay(t *testing.T) {
	d := made(t, 1000)
	l := opened(t, d)
	room := []byte("--one--two--")
	rows := [][]byte{room[2:5], room[7:10], room}
	is(t, "Append", l.Append(rows[:2]...), api.OK)
	is(t, "Append", l.Append(rows[:0]...), api.OK)
	if string(room) != "--one--two--" || string(rows[2]) != "--one--two--" {
		t.Errorf("changed: %q", room)
	}
	room[2], room[7] = '#', '#'
	rows[0] = nil
	holds(t, d, l, rec{"one", "two"}, rec{})
	journal.Sum(room[2:4])
	if string(room) != "--#ne--#wo--" {
		t.Errorf("changed: %q", room)
	}
}

// R2: what Open tells is new memory, spare room too: whoever writes there, or appends, changes nothing else.
func TestAnswersAreNew(t *testing.T) {
	want := []rec{{"one", "two", ""}, {}, {"three"}, {"", ""}}
	d := loaded(t, fileOf(want...))
	l, first, _ := journal.Open(d, "j")
	_, second, _ := journal.Open(d, "j")
	for i := range want {
		for k := range want[i] {
			_, again, _ := journal.Open(d, "j")
			_ = append(again[i][k], "################"...)
			fill(again[i][k][:cap(again[i][k])], '#')
			again[i][k] = []byte(want[i][k])
			if told(again) != asTold(want...) {
				t.Errorf("row %d of record %d shares memory: %s", k, i, told(again))
			}
		}
		_, again, _ := journal.Open(d, "j")
		_ = append(again[i], []byte("#"), []byte("#"))
		fill(again[i][:cap(again[i])], []byte("#"))
		again[i] = written(want[i])
		if told(again) != asTold(want...) {
			t.Errorf("record %d shares memory: %s", i, told(again))
		}
	}
	fill(first[:cap(first)], [][]byte{nil})
	if told(second) != asTold(want...) {
		t.Errorf("two answers share memory: %s", told(second))
	}
	holds(t, d, l, want...)
	opened(t, d, want...)
}

func fill[N any](l []N, x N) {
	for i := range l {
		l[i] = x
	}
}

// P11.7: logs of different files have nothing in common but their disk.
func TestTwoLogs(t *testing.T) {
	d := made(t, 1000)
	a, _, _ := journal.Open(d, "a")
	b, _, _ := journal.Open(d, "b")
	is(t, "a", a.Append([]byte("of a")), api.OK)
	is(t, "b", b.Append([]byte("of b"), nil), api.OK)
	is(t, "a", a.Append(), api.OK)
	is(t, "b", b.Clear(), api.OK)
	if a.Size() != 32 || a.Count() != 2 || a.Name() != "a" || b.Size() != 8 || b.Count() != 0 || b.Name() != "b" {
		t.Errorf("a: %d, %d, %s; b: %d, %d, %s", a.Size(), a.Count(), a.Name(), b.Size(), b.Count(), b.Name())
	}
	is(t, "no room", a.Append(make([]byte, 1000)), api.ErrDiskFull)
	is(t, "a", a.Append(), api.ErrJournalOff)
	is(t, "b", b.Append([]byte("on")), api.OK)
	_, records, e := journal.Open(d, "b")
	if told(records) != asTold(rec{"on"}) || e != api.OK {
		t.Errorf("b: %s, %d", told(records), e)
	}
}

// P11.7: logs of different files may be used at one time, as their disk may.
func TestLogsAtOneTime(t *testing.T) {
	d := made(t, 1<<20)
	var all sync.WaitGroup
	for i := range 8 {
		all.Go(func() {
			name := strings.Repeat("x", i+1)
			l, _, e := journal.Open(d, name)
			for n := 0; n < 50 && e == api.OK; n++ {
				e = l.Append([]byte(name), bytes.Repeat([]byte{byte(n)}, n))
			}
			_, records, again := journal.Open(d, name)
			if e != api.OK || again != api.OK || len(records) != 50 || len(records[49][1]) != 49 || string(records[49][0]) != name {
				t.Errorf("%s: %d, %d, %d records", name, e, again, len(records))
			}
		})
	}
	all.Wait()
}

// The file's Sum: the CRC-32 of the chapter, bit by bit.
func TestSum(t *testing.T) {
	for text, want := range map[string]uint32{"": 0, "123456789": 0xcbf43926, "a": 0xe8b7be43} {
		if got := journal.Sum([]byte(text)); got != want {
			t.Errorf("%q: %x, want %x", text, got, want)
		}
	}
	text := []byte{}
	for i := range 2000 {
		text = append(text, byte(i*i>>3+i))
		if got, want := journal.Sum(text), slowSum(text); got != want {
			t.Fatalf("of %d bytes: %x, want %x", len(text), got, want)
		}
	}
}

func slowSum(b []byte) uint32 {
	x := ^uint32(0)
	for _, c := range b {
		for i := range 8 {
			bit := x>>31 ^ uint32(c>>i&1)
			x = x<<1 ^ bit*0x04c11db7
		}
	}
	turned := uint32(0)
	for i := range 32 {
		turned |= x >> i & 1 << (31 - i)
	}
	return ^turned
}
