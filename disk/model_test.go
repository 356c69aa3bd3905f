package disk_test

import (
	"math"
	"math/rand"
	"slices"
	"strings"
	"testing"

	"fathom/api"
	"fathom/disk"
)

// entry is a file of the model: what is sure of it, and what is not.
type entry struct {
	name  string
	sure  string
	loose string
}

func (f entry) all() string { return f.sure + f.loose }

// model is the chapter's words over a plain list, in the order of the names.
type model struct {
	room, writes     int
	next, keep, lose int
	off              bool
	files            []entry
}

func (m *model) place(name string) (int, bool) {
	return slices.BinarySearchFunc(m.files, name, func(f entry, name string) int { return strings.Compare(f.name, name) })
}

func wellNamed(name string) bool {
	good := func(r rune) bool {
		return 'a' <= r && r <= 'z' || '0' <= r && r <= '9' || r == '.' || r == '-' || r == '_'
	}
	return name != "" && len(name) <= 64 && strings.Trim(strings.Map(func(r rune) rune {
		if good(r) {
			return 'x'
		}
		return 'X'
	}, name), "x") == ""
}

// ahead is what all calls are refused with, first of all; the last name is not asked to be there where isMade is said.
func (m *model) ahead(isMade bool, names ...string) api.Errno {
	if m.off {
		return api.ErrDiskOff
	}
	for _, name := range names {
		if !wellNamed(name) {
			return api.ErrDiskName
		}
	}
	if _, there := m.place(names[0]); !there && !isMade {
		return api.ErrDiskNone
	}
	return api.OK
}

func (m *model) free() int {
	n := m.room
	for _, f := range m.files {
		n -= len(f.all())
	}
	return n
}

// lay, take: a file is put in its place, or taken out of it.
func (m *model) lay(f entry) {
	i, there := m.place(f.name)
	if !there {
		m.files = slices.Insert(m.files, i, entry{})
	}
	m.files[i] = f
}

func (m *model) take(name string) entry {
	i, _ := m.place(name)
	f := m.files[i]
	m.files = slices.Delete(m.files, i, i+1)
	return f
}

// done is a write: whole, or torn.
func (m *model) done(whole func(), torn func(keep int)) api.Errno {
	m.writes++
	m.next--
	if m.next != 0 {
		m.next = max(m.next, -1)
		whole()
		return api.OK
	}
	torn(m.keep)
	for i, f := range m.files {
		for left := m.lose; left > 0 && f.loose != ""; left-- {
			f.loose = f.loose[:len(f.loose)-1]
		}
		m.files[i] = f
	}
	m.off = true
	return api.ErrDiskOff
}

// orNot is a write that is torn by being done or not.
func (m *model) orNot(whole func()) api.Errno {
	return m.done(whole, func(keep int) {
		if keep > 0 {
			whole()
		}
	})
}

func (m *model) append(name string, b []byte) api.Errno {
	if e := m.ahead(true, name); e != api.OK {
		return e
	}
	i, there := m.place(name)
	if !there && len(m.files) == 256 || len(b) > m.free() {
		return api.ErrDiskFull
	}
	f := entry{name: name}
	if there {
		f = m.files[i]
	}
	return m.done(func() {
		f.loose += string(b)
		m.lay(f)
	}, func(keep int) {
		if keep < 1 {
			return
		}
		for i := 0; i < keep && i < len(b); i++ {
			f.loose += string(b[i : i+1])
		}
		m.lay(f)
	})
}

func (m *model) cut(name string, size int) api.Errno {
	if e := m.ahead(false, name); e != api.OK {
		return e
	}
	i, _ := m.place(name)
	f := m.files[i]
	if size < 0 || size > len(f.all()) {
		return api.ErrDiskCut
	}
	return m.orNot(func() {
		left := f.all()[:size]
		if size <= len(f.sure) {
			m.files[i] = entry{name, left, ""}
		} else {
			m.files[i] = entry{name, f.sure, left[len(f.sure):]}
		}
	})
}

func (m *model) rename(from, to string) api.Errno {
	if e := m.ahead(false, from, to); e != api.OK {
		return e
	}
	return m.orNot(func() {
		f := m.take(from)
		f.name = to
		m.lay(f)
	})
}

func (m *model) remove(name string) api.Errno {
	if e := m.ahead(false, name); e != api.OK {
		return e
	}
	return m.orNot(func() { m.take(name) })
}

func (m *model) sync(name string) api.Errno {
	if e := m.ahead(false, name); e != api.OK {
		return e
	}
	i, _ := m.place(name)
	return m.orNot(func() { m.files[i] = entry{name, m.files[i].all(), ""} })
}

func (m *model) arm(n, keep, lose int) { m.next, m.keep, m.lose = max(n, -1), keep, lose }

func (m *model) on() {
	for i, f := range m.files {
		if m.off {
			m.files[i] = entry{f.name, f.all(), ""}
		}
	}
	m.off = false
}

// likewise holds all that a disk tells against the model.
func likewise(t *testing.T, d *disk.Disk, m *model) {
	t.Helper()
	if d.Off() != m.off || d.Writes() != m.writes || d.Room() != m.room {
		t.Fatalf("off %v, %d writes, room %d; want %v, %d, %d", d.Off(), d.Writes(), d.Room(), m.off, m.writes, m.room)
	}
	var names []string
	files := d.Files()
	if len(files) != len(m.files) {
		t.Fatalf("%d files, want %d", len(files), len(m.files))
	}
	for i, f := range m.files {
		names = append(names, f.name)
		if files[i].Name != f.name || string(files[i].Bytes) != f.all() {
			t.Fatalf("%q: %q; want %q: %q", files[i].Name, files[i].Bytes, f.name, f.all())
		}
		asked(t, d, m, f.name)
	}
	got, e := d.Names()
	if m.off && (len(got) != 0 || e != api.ErrDiskOff) || !m.off && (!slices.Equal(got, names) || e != api.OK) {
		t.Fatalf("names %q, %d; want %q", got, e, names)
	}
}

// asked holds what is told of one name against the model.
func asked(t *testing.T, d *disk.Disk, m *model, name string) {
	t.Helper()
	want, all, sure := m.ahead(false, name), "", 0
	if want == api.OK {
		i, _ := m.place(name)
		all, sure = m.files[i].all(), len(m.files[i].sure)
	}
	if b, e := d.Read(name); string(b) != all || e != want {
		t.Fatalf("Read %q: %q, %d; want %q, %d", name, b, e, all, want)
	}
	if n, e := d.Size(name); n != len(all) || e != want {
		t.Fatalf("Size %q: %d, %d; want %d, %d", name, n, e, len(all), want)
	}
	if n, e := d.Sure(name); n != sure || e != want {
		t.Fatalf("Sure %q: %d, %d; want %d, %d", name, n, e, sure, want)
	}
	half := len(all) / 2
	if b, e := d.ReadAt(name, half, len(all)-half); string(b) != all[half:] || e != want {
		t.Fatalf("ReadAt %q: %q, %d; want %q, %d", name, b, e, all[half:], want)
	}
}

// someNumber is mostly a small one, of either sign, and now and then one at the ends of all.
func someNumber(rnd *rand.Rand) int {
	if rnd.Intn(12) == 0 {
		return []int{math.MinInt, math.MinInt + 1, math.MaxInt - 1, math.MaxInt}[rnd.Intn(4)]
	}
	return rnd.Intn(14) - 2
}

func someName(rnd *rand.Rand) string {
	if rnd.Intn(25) == 0 {
		return []string{"", "A", "a b", "a/b", "a\x00", "\xff", "é", strings.Repeat("a", 65)}[rnd.Intn(8)]
	}
	return []string{"a", "b", "c", "0", "-", ".", "_", strings.Repeat("z", 64)}[rnd.Intn(8)]
}

// step does one call, on the disk and on the model.
func step(t *testing.T, rnd *rand.Rand, d *disk.Disk, m *model) {
	t.Helper()
	name, n := someName(rnd), someNumber(rnd)
	var got, want api.Errno
	call := rnd.Intn(16)
	switch call {
	default:
		b := make([]byte, rnd.Intn(12))
		rnd.Read(b)
		got, want = d.Append(name, b), m.append(name, b)
	case 0, 1:
		got, want = d.Cut(name, n), m.cut(name, n)
	case 2, 3:
		to := someName(rnd)
		got, want = d.Rename(name, to), m.rename(name, to)
	case 4, 5:
		got, want = d.Remove(name), m.remove(name)
	case 6, 7, 8:
		got, want = d.Sync(name), m.sync(name)
	case 9:
		keep, lose := someNumber(rnd), someNumber(rnd)
		d.Arm(n, keep, lose)
		m.arm(n, keep, lose)
	case 10:
		d.On()
		m.on()
	}
	if got != want {
		t.Fatalf("call %d of %q, %d: %d, want %d", call, name, n, got, want)
	}
	asked(t, d, m, name)
}

// P10.2 to P10.5: whatever is called, one behind the other: what the model tells.
func TestAnyCalls(t *testing.T) {
	rnd := rand.New(rand.NewSource(101))
	for range 300 {
		room := 1 + rnd.Intn(60)
		d := made(t, room)
		m := &model{room: room}
		for range 150 {
			step(t, rnd, d, m)
			likewise(t, d, m)
		}
	}
}

// P10.6: a disk loaded from another one's files goes on as this one would with all its bytes sure; that one goes its own way.
func TestAnyCallsOfTwo(t *testing.T) {
	rnd := rand.New(rand.NewSource(102))
	for range 200 {
		room := 1 + rnd.Intn(60)
		d, m := made(t, room), &model{room: room}
		for range 30 {
			step(t, rnd, d, m)
		}
		c, e := disk.Load(d.Files(), d.Room())
		if e != api.OK {
			t.Fatalf("Load: %d", e)
		}
		k := &model{room: room, off: true, files: slices.Clone(m.files)}
		k.on()
		for range 60 {
			likewise(t, c, k)
			likewise(t, d, m)
			if rnd.Intn(2) == 0 {
				step(t, rnd, c, k)
			} else {
				step(t, rnd, d, m)
			}
		}
	}
}
