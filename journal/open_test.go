package journal_test

import (
	"encoding/binary"
	"hash/crc32"
	"strings"
	"testing"

	"fathom/api"
	"fathom/disk"
	"fathom/journal"
)

// The chapter's example 3.
func TestExampleOfFiles(t *testing.T) {
	opened(t, loaded(t, "FATH"))
	for _, text := range []string{"FATHOMX1", "x"} {
		d := loaded(t, text)
		refused(t, d, "j", api.ErrJournalDamage)
		stands(t, d, text)
	}
	two := fileOf(rec{"one"}, rec{"two"})
	spoilt := strings.Replace(two, "one", "onE", 1)
	d := loaded(t, spoilt)
	refused(t, d, "j", api.ErrJournalDamage)
	stands(t, d, spoilt)
	opened(t, loaded(t, two[:len(two)-1]), rec{"one"})
	refused(t, loaded(t, head+"\x00\x40\x00\x01\x00\x00\x00\x00"), "j", api.ErrJournalDamage)
	opened(t, loaded(t, head+"\x00\x40\x00\x00\x00\x00\x00\x00"))
}

// P11.1, 1: of a beginning of the head, none too, the head is made; by a Cut alone if there is something, an Append and a Sync.
func TestBeginningsOfTheHead(t *testing.T) {
	d := made(t, 8)
	l := opened(t, d)
	if d.Writes() != 2 || l.Size() != 8 {
		t.Errorf("no file: %d writes", d.Writes())
	}
	for n := range len(head) {
		d := loaded(t, head[:n])
		opened(t, d)
		if want := 2 + min(n, 1); d.Writes() != want {
			t.Errorf("%q: %d writes, want %d", head[:n], d.Writes(), want)
		}
	}
	d = loaded(t, head)
	opened(t, d)
	if d.Writes() != 0 {
		t.Errorf("the head: %d writes", d.Writes())
	}
}

// P11.1, 2: what neither is a beginning of the head nor begins with it is damage, and nothing changes.
func TestOtherHeads(t *testing.T) {
	for n := range len(head) {
		for _, turn := range []byte{1, 32, 128, 255} {
			b := []byte(fileOf(rec{"a"}))
			b[n] ^= turn
			for size := n + 1; size <= len(b); size++ {
				d := loaded(t, string(b[:size]))
				refused(t, d, "j", api.ErrJournalDamage)
				stands(t, d, string(b[:size]))
				if d.Writes() != 0 {
					t.Errorf("%q: %d writes", b[:size], d.Writes())
				}
			}
		}
	}
	for _, text := range []string{"\x00", "ATHOMJ1", "fathomj1", "FATHOMJ2", " FATHOMJ1", strings.Repeat("\x00", 30)} {
		refused(t, loaded(t, text), "j", api.ErrJournalDamage)
	}
}

// P11.1, 3: wherever a file of whole records ends, those that are whole are told, and what is left is cut off by one Cut.
func TestTornAnywhere(t *testing.T) {
	all := []rec{{"a"}, {}, {"", "bc"}, {strings.Repeat("long ", 20)}, {"", "", ""}}
	whole := fileOf(all...)
	for size := len(head); size <= len(whole); size++ {
		n := 0
		for n < len(all) && len(fileOf(all[:n+1]...)) <= size {
			n++
		}
		d := loaded(t, whole[:size])
		opened(t, d, all[:n]...)
		want := 1
		if size == len(fileOf(all[:n]...)) {
			want = 0
		}
		if d.Writes() != want {
			t.Errorf("of %d bytes: %d writes, want %d", size, d.Writes(), want)
		}
	}
}

// P11.1, 3: what a record must be; damage changes nothing, nor is anything told that stands ahead of it.
func TestRecordsThatAreNone(t *testing.T) {
	good := fileOf(rec{"good"})
	sum := strings.Repeat("\x00", 4)
	for what, text := range map[string]string{
		"a length above the limit":                      "\x00\x40\x00\x01" + sum,
		"a length above the limit, with bytes":          "\x00\x40\x00\x01" + sum + "bytes",
		"the greatest length":                           "\xff\xff\xff\xff" + sum,
		"a length with the highest bit":                 "\x80\x00\x00\x00" + sum,
		"another sum":                                   "\x00\x00\x00\x00" + "\x00\x00\x00\x00",
		"the body's sum alone":                          "\x00\x00\x00\x05" + string(binary.BigEndian.AppendUint32(nil, crc32.ChecksumIEEE([]byte("\x00\x00\x00\x01a")))) + "\x00\x00\x00\x01a",
		"a row's length of one byte":                    sealed("\x00"),
		"a row's length of three bytes":                 sealed("\x00\x00\x00"),
		"a row's length of three bytes behind a row":    sealed("\x00\x00\x00\x01a\x00\x00\x00"),
		"a row longer than what is left":                sealed("\x00\x00\x00\x01"),
		"a row longer by one":                           sealed("\x00\x00\x00\x03ab"),
		"the longest row":                               sealed("\xff\xff\xff\xffab"),
		"a row with the highest bit":                    sealed("\x80\x00\x00\x00"),
		"a row longer than what is left, behind others": sealed("\x00\x00\x00\x00\x00\x00\x00\x01a\x00\x00\x00\x02b"),
		"a byte behind the last row":                    sealed("\x00\x00\x00\x01ab"),
		"more than MaxRows":                             sealed(strings.Repeat("\x00\x00\x00\x00", api.MaxRows+1)),
	} {
		for _, before := range []string{head, good} {
			for _, behind := range []string{"", sealed(""), "torn"} {
				d := loaded(t, before+text+behind)
				l, records, e := journal.Open(d, "j")
				if l != nil || len(records) != 0 || e != api.ErrJournalDamage || d.Writes() != 0 {
					t.Errorf("%s: %v, %s, %d, %d writes", what, l, told(records), e, d.Writes())
				}
				stands(t, d, before+text+behind)
			}
		}
	}
}

// P11.1, 3: a length above MaxRecord is damage though bytes are missing; up to it, missing bytes are a torn write.
func TestLengthAheadOfMissing(t *testing.T) {
	for text, want := range map[string]api.Errno{
		"\x00\x40\x00\x01\x00\x00\x00":                         api.OK, // not even eight bytes
		"\x00\x40\x00\x01\x00\x00\x00\x00":                     api.ErrJournalDamage,
		"\x00\x40\x00\x00\x00\x00\x00\x00":                     api.OK,
		"\x00\x3f\xff\xff\x00\x00\x00\x00":                     api.OK,
		"\x00\x00\x00\x01\x00\x00\x00\x00":                     api.OK,
		"\x00\x00\x00\x04\x00\x00\x00\x00\x00\x00\x00":         api.OK,
		"\x00\x00\x00\x04\x00\x00\x00\x00\x00\x00\x00\x00":     api.ErrJournalDamage,
		"\x00\x00\x00\x04\x00\x00\x00\x00\x00\x00\x00\x00\x00": api.ErrJournalDamage,
	} {
		d := loaded(t, fileOf(rec{"good"})+text)
		if want == api.OK {
			opened(t, d, rec{"good"})
			continue
		}
		refused(t, d, "j", want)
	}
}

// P11.1, P11.2: records at the limits are laid, and told again.
func TestGreatestRecords(t *testing.T) {
	d := made(t, 1<<24)
	l := opened(t, d)
	longest := rec{strings.Repeat("x", api.MaxRecord-4)}
	most := make(rec, api.MaxRows)
	both := make(rec, api.MaxRows)
	both[77] = strings.Repeat("y", api.MaxRecord-4*api.MaxRows)
	for _, r := range []rec{longest, most, both} {
		is(t, "Append", l.Append(written(r)...), api.OK)
	}
	holds(t, d, l, longest, most, both)
	opened(t, d, longest, most, both)
}

// P11.1: disk.Read's error; a file that there is not is made.
func TestErrorsOfReading(t *testing.T) {
	d := made(t, 100)
	for _, name := range []string{"A", "", "a b", "j\x00", strings.Repeat("a", api.MaxFile+1)} {
		refused(t, d, name, api.ErrDiskName)
	}
	if d.Writes() != 0 {
		t.Errorf("%d writes", d.Writes())
	}
	name := strings.Repeat("z", api.MaxFile)
	if l, _, e := journal.Open(d, name); e != api.OK || l.Name() != name {
		t.Errorf("the longest name: %d", e)
	}
	d.Arm(1, 0, 0)
	is(t, "off", d.Append("j", []byte("x")), api.ErrDiskOff)
	refused(t, d, "j", api.ErrDiskOff)
	refused(t, d, "A", api.ErrDiskOff)
	if d.Writes() != 3 {
		t.Errorf("%d writes", d.Writes())
	}
}

// P11.1, 1: the first error of the disk is the answer, be it of the Append or of room.
func TestNoRoomForTheHead(t *testing.T) {
	d := made(t, 7)
	refused(t, d, "j", api.ErrDiskFull)
	if n := len(d.Files()); n != 0 || d.Writes() != 0 {
		t.Errorf("%d files, %d writes", n, d.Writes())
	}
	d, _ = disk.Load([]api.File{{Name: "j", Bytes: []byte("FATHOM")}, {Name: "other", Bytes: []byte("x")}}, 8)
	refused(t, d, "j", api.ErrDiskFull)
	if n, _ := d.Size("j"); n != 0 || d.Writes() != 1 {
		t.Errorf("%d bytes, %d writes", n, d.Writes())
	}
	files := []api.File{}
	for i := range api.MaxFiles {
		files = append(files, api.File{Name: "f" + strings.Repeat("x", i/200) + string(rune('a'+i%20)) + string(rune('a'+i/20))})
	}
	d, e := disk.Load(files, 1000)
	is(t, "Load", e, api.OK)
	refused(t, d, "j", api.ErrDiskFull)
}

// P11.1: of each write of Open that is torn the disk's error is told, and nothing beside it; then it is opened as if it had not been (P11.5).
func TestPowerGoesInOpen(t *testing.T) {
	good := fileOf(rec{"one"}, rec{"two", ""})
	for text, c := range map[string]struct {
		writes int
		want   []rec
	}{
		"":                         {2, nil},
		"F":                        {3, nil},
		"FATHOMJ":                  {3, nil},
		good[:len(head)+3]:         {1, nil},
		good[:len(good)-1]:         {1, []rec{{"one"}}},
		good + "\x00\x00\x00\x09":  {1, []rec{{"one"}, {"two", ""}}},
		good + sealed("tttt")[:11]: {1, []rec{{"one"}, {"two", ""}}},
	} {
		for n := 1; n <= c.writes; n++ {
			for keep := -1; keep < 10; keep++ {
				for lose := -1; lose < 10; lose++ {
					d := loaded(t, text)
					d.Arm(n, keep, lose)
					refused(t, d, "j", api.ErrDiskOff)
					if d.Writes() != n {
						t.Errorf("%q: %d writes, want %d", text, d.Writes(), n)
					}
					d.On()
					opened(t, d, c.want...)
				}
			}
		}
		d := loaded(t, text)
		d.Arm(c.writes+1, 0, 0)
		opened(t, d, c.want...)
	}
}
