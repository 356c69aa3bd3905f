package disk_test

import (
	"bytes"
	"math"
	"slices"
	"testing"

	"fathom/api"
	"fathom/disk"
)

// P10.1: a room of 1 to MaxRoom.
func TestNewRooms(t *testing.T) {
	for _, room := range []int{0, -1, math.MinInt, api.MaxRoom + 1, 268435457, math.MaxInt, 1<<32 + 1} {
		if d, e := disk.New(room); d != nil || e != api.ErrDiskRoom {
			t.Errorf("New(%d): %d", room, e)
		}
		if d, e := disk.Load(nil, room); d != nil || e != api.ErrDiskRoom {
			t.Errorf("Load into %d: %d", room, e)
		}
	}
	for _, room := range []int{1, 2, api.MaxRoom - 1, api.MaxRoom} {
		fresh(t, made(t, room), room)
		d, e := disk.Load([]api.File{}, room)
		is(t, "Load of none", e, api.OK)
		fresh(t, d, room)
	}
}

// fresh: a disk without files, on, with nothing armed.
func fresh(t *testing.T, d *disk.Disk, room int) {
	t.Helper()
	if l, e := d.Names(); len(l) != 0 || e != api.OK || len(d.Files()) != 0 || d.Off() || d.Writes() != 0 || d.Room() != room {
		t.Errorf("%q, %d, %d files, %v, %d writes, room %d", l, e, len(d.Files()), d.Off(), d.Writes(), d.Room())
	}
	for i := range 20 {
		is(t, "a write", d.Append("a", nil), api.OK)
		if d.Writes() != i+1 {
			t.Errorf("%d writes, want %d", d.Writes(), i+1)
		}
	}
}

// P10.1: what may not be loaded; the room is looked at first.
func TestLoadRefuses(t *testing.T) {
	ten := bytes.Repeat([]byte{7}, 10)
	for name, l := range map[string][]api.File{
		"one name twice":            {{Name: "a"}, {Name: "a"}},
		"one name twice, apart":     {{Name: "a"}, {Name: "b"}, {Name: "c"}, {Name: "a"}},
		"twice with bytes":          {{Name: "a", Bytes: []byte("x")}, {Name: "a", Bytes: []byte("x")}},
		"a name that may not be":    {{Name: "A"}},
		"no name":                   {{Name: "a"}, {}},
		"a long name":               {{Name: string(bytes.Repeat([]byte{'a'}, 65))}},
		"more bytes than the room":  {{Name: "a", Bytes: append(slices.Clone(ten), 7)}},
		"more in all":               {{Name: "a", Bytes: ten}, {Name: "b", Bytes: ten[:1]}},
		"more in all, in the last":  {{Name: "a", Bytes: ten[:4]}, {Name: "b"}, {Name: "c", Bytes: ten[:7]}},
		"more files than MaxFiles":  manyFiles(api.MaxFiles + 1),
		"257 names that may not be": make([]api.File, 257),
		"far more":                  manyFiles(3000),
	} {
		if d, e := disk.Load(l, 10); d != nil || e != api.ErrDiskFile {
			t.Errorf("%s: %d", name, e)
		}
		for _, room := range []int{0, -5, api.MaxRoom + 1} {
			if d, e := disk.Load(l, room); d != nil || e != api.ErrDiskRoom {
				t.Errorf("%s, into %d: %d", name, room, e)
			}
		}
	}
}

// P10.1: what may be, in whatever order: it stands by the names, and all of it is sure.
func TestLoadTakes(t *testing.T) {
	sorted := loaded(t, "-:1 .:2 0:3 9:4 _:5 a: a.b:7 aa:8 b:99")
	for _, files := range []string{"b:99 aa:8 a.b:7 a: _:5 9:4 0:3 .:2 -:1", "a: b:99 .:2 a.b:7 9:4 -:1 aa:8 _:5 0:3"} {
		d := loaded(t, files)
		sures(t, d, "-:1| .:2| 0:3| 9:4| _:5| a:| a.b:7| aa:8| b:99|")
		if d.Off() || d.Writes() != 0 || d.Room() != 100 {
			t.Errorf("%v, %d writes, room %d", d.Off(), d.Writes(), d.Room())
		}
	}
	names, e := sorted.Names()
	if !slices.Equal(names, []string{"-", ".", "0", "9", "_", "a", "a.b", "aa", "b"}) || e != api.OK {
		t.Errorf("%q, %d", names, e)
	}
	d, e := disk.Load([]api.File{{Name: "a", Bytes: make([]byte, 4)}, {Name: "b", Bytes: make([]byte, 6)}}, 10)
	is(t, "a full room", e, api.OK)
	is(t, "one more", d.Append("a", []byte{1}), api.ErrDiskFull)
	d, e = disk.Load(manyFiles(api.MaxFiles), 1)
	is(t, "as many as may be", e, api.OK)
	if len(d.Files()) != 256 {
		t.Errorf("%d files", len(d.Files()))
	}
}

// P10.1: a greatest disk, full to its last byte.
func TestGreatestRoom(t *testing.T) {
	whole := make([]byte, api.MaxRoom)
	whole[api.MaxRoom-1] = 9
	d, e := disk.Load([]api.File{{Name: "a", Bytes: whole}}, api.MaxRoom)
	is(t, "Load", e, api.OK)
	is(t, "no bytes", d.Append("b", nil), api.OK)
	is(t, "one more", d.Append("b", []byte{1}), api.ErrDiskFull)
	if b, e := d.ReadAt("a", api.MaxRoom-1, 1); e != api.OK || len(b) != 1 || b[0] != 9 {
		t.Errorf("the last: %v, %d", b, e)
	}
	if d, e := disk.Load([]api.File{{Name: "a", Bytes: whole}, {Name: "b", Bytes: []byte{1}}}, api.MaxRoom); d != nil || e != api.ErrDiskFile {
		t.Errorf("one more: %d", e)
	}
}
