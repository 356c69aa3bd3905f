package journal_test

import (
	"strings"
	"testing"

	"fathom/api"
)

// The chapter's examples 1, 2 and 4.
func TestExamplesOfCalls(t *testing.T) {
	d := made(t, 1<<24)
	l := opened(t, d)
	is(t, "a", l.Append([]byte("a")), api.OK)
	stands(t, d, "FATHOMJ1\x00\x00\x00\x05"+fileOf(rec{"a"})[12:16]+"\x00\x00\x00\x01a")
	holds(t, d, l, rec{"a"})
	is(t, "none", l.Append(), api.OK)
	holds(t, d, l, rec{"a"}, rec{})
	is(t, "two", l.Append(nil, []byte("bc")), api.OK)
	three := []rec{{"a"}, {}, {"", "bc"}}
	holds(t, d, l, three...)
	l = opened(t, d, three...)
	if l.Size() != 47 {
		t.Errorf("Size %d", l.Size())
	}

	d.Arm(1, 5, 0)
	is(t, "torn", l.Append([]byte("x")), api.ErrDiskOff)
	is(t, "then", l.Append([]byte("x")), api.ErrJournalOff)
	d.On()
	l = opened(t, d, three...)
	d.Arm(2, 0, 9)
	is(t, "the Sync torn", l.Append([]byte("x")), api.ErrDiskOff)
	d.On()
	l = opened(t, d, three...)
	d.Arm(2, 0, 0)
	is(t, "nothing lost", l.Append([]byte("x")), api.ErrDiskOff)
	d.On()
	l = opened(t, d, append(three, rec{"x"})...)

	is(t, "Clear", l.Clear(), api.OK)
	holds(t, d, l)
	refused(t, d, "A", api.ErrDiskName)
	is(t, "long", l.Append(make([]byte, 4194304)), api.ErrJournalLong)
	is(t, "then", l.Append([]byte("a")), api.OK)
	is(t, "many", l.Append(make([][]byte, 4097)...), api.ErrJournalLong)
	holds(t, d, l, rec{"a"})
}

// P11.2: one Append and one Sync of the disk; the record stands and is sure.
func TestAppendWrites(t *testing.T) {
	d := made(t, 1000)
	l := opened(t, d)
	all := []rec{}
	for i, r := range []rec{{}, {""}, {"a"}, {"", "", "b"}, {"\x00\xff"}, {strings.Repeat("z", 300)}} {
		all = append(all, r)
		is(t, "Append", l.Append(written(r)...), api.OK)
		holds(t, d, l, all...)
		if want := 2 + 2*(i+1); d.Writes() != want {
			t.Errorf("%q: %d writes, want %d", r, d.Writes(), want)
		}
	}
	opened(t, d, all...)
}

// P11.2: what is too long is refused, whatever the disk would say; the log goes on as it was.
func TestTooLong(t *testing.T) {
	d := made(t, 100)
	l := opened(t, d)
	most := make([]byte, api.MaxRecord-4)
	for what, rows := range map[string][][]byte{
		"one row longer by one":   {append(most, 0)},
		"a row beside the most":   {most, nil},
		"two halves, and a byte":  {most[:len(most)/2], most[:len(most)/2-1]},
		"a row more":              make([][]byte, api.MaxRows+1),
		"many rows more":          make([][]byte, 1<<20),
		"both":                    append(make([][]byte, api.MaxRows), most),
		"one row a thousand fold": copies(most, 1000),
	} {
		is(t, what, l.Append(rows...), api.ErrJournalLong)
		holds(t, d, l)
	}
	if d.Writes() != 2 {
		t.Errorf("%d writes", d.Writes())
	}
	d.Arm(1, 0, 0)
	is(t, "the power goes", d.Sync("j"), api.ErrDiskOff)
	is(t, "too long while off", l.Append(append(most, 0)), api.ErrJournalLong)
	is(t, "off", l.Append(), api.ErrDiskOff)
	is(t, "ErrJournalOff is first", l.Append(append(most, 0)), api.ErrJournalOff)
	is(t, "ErrJournalOff is first", l.Append(make([][]byte, api.MaxRows+1)...), api.ErrJournalOff)
}

func copies(row []byte, n int) [][]byte {
	l := [][]byte{}
	for range n {
		l = append(l, row)
	}
	return l
}

// P11.2: an error of the disk is handed on, whichever it is, and then the log tells ErrJournalOff for ever; another log of the file doesn't.
func TestNoRoomForARecord(t *testing.T) {
	d := made(t, 8+12+12)
	l := opened(t, d)
	is(t, "fits", l.Append(nil), api.OK)
	is(t, "fits not", l.Append([]byte("x")), api.ErrDiskFull)
	holds(t, d, l, rec{""})
	for range 3 {
		is(t, "then", l.Append(nil), api.ErrJournalOff)
		is(t, "then", l.Clear(), api.ErrJournalOff)
	}
	holds(t, d, l, rec{""})
	again := opened(t, d, rec{""})
	is(t, "another log", again.Append(nil), api.OK)
	is(t, "the one log", l.Append(), api.ErrJournalOff)
	holds(t, d, again, rec{""}, rec{""})
	if d.Writes() != 6 {
		t.Errorf("%d writes", d.Writes())
	}
}

// P11.2, P11.3, P11.4: behind a torn write Size and Count are as they were, and every call tells ErrJournalOff, the power on again or not.
func TestOffForEver(t *testing.T) {
	for n, call := range []func(l log) api.Errno{
		func(l log) api.Errno { return l.Clear() },
		func(l log) api.Errno { return l.Append([]byte("x")) },
		func(l log) api.Errno { return l.Append([]byte("x")) },
	} {
		for _, keep := range []int{0, 1, 99} {
			d := made(t, 1000)
			l := opened(t, d)
			is(t, "Append", l.Append([]byte("good")), api.OK)
			size := l.Size()
			d.Arm(max(n, 1), keep, 0)
			is(t, "torn", call(l), api.ErrDiskOff)
			writes := d.Writes()
			for range 2 {
				is(t, "Append", l.Append(), api.ErrJournalOff)
				is(t, "Clear", l.Clear(), api.ErrJournalOff)
				if l.Size() != size || l.Count() != 1 || l.Name() != "j" {
					t.Errorf("Size %d, Count %d, Name %q", l.Size(), l.Count(), l.Name())
				}
				d.On()
			}
			if d.Writes() != writes {
				t.Errorf("%d writes more", d.Writes()-writes)
			}
		}
	}
}

type log interface {
	Append(rows ...[]byte) api.Errno
	Clear() api.Errno
}

// P11.3: by one Cut no record stands; what is appended then stands behind the head.
func TestClear(t *testing.T) {
	d := made(t, 1000)
	l := opened(t, d)
	for round := range 3 {
		is(t, "Append", l.Append([]byte("a"), []byte("b")), api.OK)
		is(t, "Append", l.Append(), api.OK)
		writes := d.Writes()
		is(t, "Clear", l.Clear(), api.OK)
		holds(t, d, l)
		is(t, "Clear of none", l.Clear(), api.OK)
		holds(t, d, l)
		if d.Writes() != writes+2 {
			t.Errorf("round %d: %d writes", round, d.Writes()-writes)
		}
		opened(t, d)
	}
	is(t, "Append", l.Append([]byte("new")), api.OK)
	holds(t, d, l, rec{"new"})
	opened(t, d, rec{"new"})
}

// P11.3: a log of records that were there is cleared, too; an error of the disk is handed on.
func TestClearOfWhatWasThere(t *testing.T) {
	d := loaded(t, fileOf(rec{"one"}, rec{"two"})+"torn")
	l := opened(t, d, rec{"one"}, rec{"two"})
	is(t, "Append", l.Append([]byte("three")), api.OK)
	holds(t, d, l, rec{"one"}, rec{"two"}, rec{"three"})
	is(t, "Clear", l.Clear(), api.OK)
	holds(t, d, l)
	is(t, "Remove", d.Remove("j"), api.OK)
	is(t, "Clear of no file", l.Clear(), api.ErrDiskNone)
	is(t, "then", l.Clear(), api.ErrJournalOff)
	is(t, "then", l.Append(), api.ErrJournalOff)
}
