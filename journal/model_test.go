package journal_test

import (
	"encoding/binary"
	"hash/crc32"
	"math/rand"
	"slices"
	"strings"
	"testing"

	"fathom/api"
	"fathom/disk"
	"fathom/journal"
)

// reads is the chapter's P11.1 by plain loops: the records of a file, its text then, and the error.
func reads(text string) ([]rec, string, api.Errno) {
	if len(text) < len(head) && text == head[:len(text)] {
		return nil, head, api.OK
	}
	if !strings.HasPrefix(text, head) {
		return nil, text, api.ErrJournalDamage
	}
	records := []rec{}
	for at := len(head); at < len(text); {
		rest := text[at:]
		if len(rest) < 8 {
			return records, text[:at], api.OK
		}
		size := int64(binary.BigEndian.Uint32([]byte(rest)))
		if size > 1<<22 {
			return nil, text, api.ErrJournalDamage
		}
		if int64(len(rest)) < 8+size {
			return records, text[:at], api.OK
		}
		body := rest[8 : 8+size]
		rows, good := rowsOf(body)
		if crc32.ChecksumIEEE([]byte(rest[:4]+body)) != binary.BigEndian.Uint32([]byte(rest[4:])) || !good {
			return nil, text, api.ErrJournalDamage
		}
		records = append(records, rows)
		at += 8 + int(size)
	}
	return records, text, api.OK
}

func rowsOf(body string) (rec, bool) {
	rows := rec{}
	for body != "" {
		if len(body) < 4 {
			return nil, false
		}
		size := int64(binary.BigEndian.Uint32([]byte(body)))
		if size > int64(len(body)-4) {
			return nil, false
		}
		rows = append(rows, body[4:4+size])
		body = body[4+size:]
	}
	return rows, len(rows) <= 4096
}

// asModel: Open of a file of that text does what the model does.
func asModel(t *testing.T, text string) api.Errno {
	t.Helper()
	want, then, e := reads(text)
	d := loaded(t, text)
	if e != api.OK {
		refused(t, d, "j", e)
		stands(t, d, text)
		return e
	}
	l, records, e := journal.Open(d, "j")
	if e != api.OK || told(records) != asTold(want...) {
		t.Fatalf("%q: %s, %d; want %s", text, told(records), e, asTold(want...))
	}
	if l.Size() != len(then) || l.Count() != len(want) {
		t.Errorf("%q: Size %d, Count %d", text, l.Size(), l.Count())
	}
	stands(t, d, then)
	return e
}

func someRecords(rnd *rand.Rand) []rec {
	records := []rec{}
	for range rnd.Intn(5) {
		records = append(records, someRecord(rnd))
	}
	return records
}

func someRecord(rnd *rand.Rand) rec {
	r := rec{}
	for range rnd.Intn(4) {
		b := make([]byte, rnd.Intn(7))
		rnd.Read(b)
		r = append(r, string(b))
	}
	return r
}

// P11.1: of files that are whole, cut, spoilt, of bodies that are no rows under a good sum, Open tells what the model tells.
func TestAnyFile(t *testing.T) {
	rnd := rand.New(rand.NewSource(111))
	seen := map[api.Errno]int{}
	for range 30000 {
		text := fileOf(someRecords(rnd)...)
		for range rnd.Intn(3) {
			b := make([]byte, rnd.Intn(9))
			for i := range b {
				b[i] = byte(rnd.Intn(4) * rnd.Intn(2))
			}
			text += sealed(string(b))
		}
		b := []byte(text)
		for range rnd.Intn(2) * rnd.Intn(3) {
			b[rnd.Intn(len(b))] = byte(rnd.Intn(256))
		}
		if rnd.Intn(2) == 0 {
			b = b[:rnd.Intn(len(b)+1)]
		}
		if rnd.Intn(4) == 0 {
			b = append(b, make([]byte, rnd.Intn(12))...)
		}
		seen[asModel(t, string(b))]++
	}
	if seen[api.OK] < 1000 || seen[api.ErrJournalDamage] < 1000 {
		t.Errorf("seen: %v", seen)
	}
}

// P11.6: with one byte as another one, other than in a length, a file of whole records is damage; with one in a length it is that, or the records ahead of it are told.
func TestOneByteSpoilt(t *testing.T) {
	records := []rec{{"a"}, {}, {"", "bc"}, {"last one"}}
	whole := []byte(fileOf(records...))
	begins := []int{}
	for n := range records {
		begins = append(begins, len(fileOf(records[:n]...)))
	}
	for i := range whole {
		inLength := slices.ContainsFunc(begins, func(at int) bool { return at <= i && i < at+4 })
		for turn := 1; turn < 256; turn++ {
			b := slices.Clone(whole)
			b[i] ^= byte(turn)
			d := loaded(t, string(b))
			_, told, e := journal.Open(d, "j")
			if e == api.ErrJournalDamage {
				stands(t, d, string(b))
				continue
			}
			ahead := 0
			for ahead < len(begins)-1 && begins[ahead+1] <= i {
				ahead++
			}
			if e != api.OK || !inLength || len(told) != ahead {
				t.Fatalf("byte %d turned by %d: %q, %d", i, turn, told, e)
			}
			stands(t, d, string(whole[:begins[ahead]]))
		}
	}
}

// P11.5: whatever write the power goes at, and whatever is kept and lost: behind it all records of calls that ended are told, in order, and the one in flight whole or not at all.
func TestPowerGoesAnywhere(t *testing.T) {
	rnd := rand.New(rand.NewSource(115))
	for range 4000 {
		d := made(t, 4000)
		stand := []rec{}
		for range 1 + rnd.Intn(4) {
			stand = powerGoes(t, rnd, d, stand)
		}
	}
}

// powerGoes opens the log and does any calls until the power goes; it tells what stands then.
func powerGoes(t *testing.T, rnd *rand.Rand, d *disk.Disk, stand []rec) []rec {
	t.Helper()
	d.Arm(1+rnd.Intn(12), rnd.Intn(40)-5, rnd.Intn(40)-5)
	l, records, e := journal.Open(d, "j")
	maybe := stand
	for e == api.OK {
		if l.Count() == len(records) && told(records) != asTold(stand...) {
			t.Fatalf("Open: %s, want %s", told(records), asTold(stand...))
		}
		if rnd.Intn(6) == 0 {
			maybe, e = nil, l.Clear()
		} else {
			r := someRecord(rnd)
			maybe, e = append(slices.Clone(stand), r), l.Append(written(r)...)
		}
		if e == api.OK {
			stand = maybe
			records = nil
			holds(t, d, l, stand...)
		}
	}
	is(t, "the power goes", e, api.ErrDiskOff)
	d.On()
	_, records, e = journal.Open(d, "j")
	is(t, "opened again", e, api.OK)
	if told(records) == asTold(maybe...) {
		return maybe
	}
	if told(records) != asTold(stand...) {
		t.Fatalf("told %s, want %s or %s", told(records), asTold(stand...), asTold(maybe...))
	}
	return stand
}

// P11.5: the torn call is there if all of it was kept, and else not; by each number of bytes kept and lost.
func TestWhatIsKept(t *testing.T) {
	one := rec{"one", ""}
	size := len(sealed(bodyOf(one)))
	for keep := -1; keep <= size+1; keep++ {
		for lose := -1; lose <= size+1; lose++ {
			for n := 1; n <= 2; n++ {
				d := loaded(t, fileOf(rec{"before"}))
				l := opened(t, d, rec{"before"})
				d.Arm(n, keep, lose)
				is(t, "Append", l.Append(written(one)...), api.ErrDiskOff)
				d.On()
				left := min(keep, size) - max(lose, 0)
				if n == 2 {
					left = size - max(lose, 0)
					if keep > 0 {
						left = size // it was made sure ahead of the loss
					}
				}
				if left == size {
					opened(t, d, rec{"before"}, one)
				} else {
					opened(t, d, rec{"before"})
				}
			}
			d := loaded(t, fileOf(rec{"before"}))
			l := opened(t, d, rec{"before"})
			d.Arm(1, keep, lose)
			is(t, "Clear", l.Clear(), api.ErrDiskOff)
			d.On()
			if keep > 0 {
				opened(t, d)
			} else {
				opened(t, d, rec{"before"})
			}
		}
	}
}
