package disk_test

import (
	"bytes"
	"slices"
	"strings"
	"testing"

	"fathom/api"
	"fathom/disk"
)

func fill[N any](l []N, x N) {
	for i := range l {
		l[i] = x
	}
}

// R2: what is handed in stays as it is and is not kept; what lies behind its length is neither read nor written.
func TestArgumentsStay(t *testing.T) {
	room := []byte("--hello--")
	d := made(t, 100)
	is(t, "Append", d.Append("a", room[2:7]), api.OK)
	is(t, "Append", d.Append("a", room[2:4]), api.OK)
	d.Arm(1, 3, 1)
	is(t, "torn", d.Append("a", room[2:7]), api.ErrDiskOff)
	if string(room) != "--hello--" {
		t.Errorf("changed: %q", room)
	}
	fill(room, '#')
	stands(t, d, "a:hellohehe")

	row := []byte("one,two,three")
	files := []api.File{{Name: "b", Bytes: row[4:7]}, {Name: "a", Bytes: row[:3]}, {Name: "c"}, {Name: "hidden", Bytes: row}}
	before := slices.Clone(files)
	c, e := disk.Load(files[:3], 100)
	is(t, "Load", e, api.OK)
	is(t, "Append", c.Append("a", []byte("XYZ")), api.OK)
	is(t, "Append", c.Append("b", []byte("XYZ")), api.OK)
	if string(row) != "one,two,three" {
		t.Errorf("changed: %q", row)
	}
	for i, f := range files {
		if f.Name != before[i].Name || !bytes.Equal(f.Bytes, before[i].Bytes) {
			t.Errorf("file %d has changed", i)
		}
	}
	fill(row, '#')
	fill(files, api.File{Name: "x", Bytes: row})
	sures(t, c, "a:one|XYZ b:two|XYZ c:|")
}

// R2: what is told is new memory, spare room too: whoever writes there, or appends, changes nothing else.
func TestAnswersAreNew(t *testing.T) {
	d := loaded(t, "a:hello b:world c:")
	d.Append("a", []byte("more"))
	all := func() [][]byte {
		l := [][]byte{}
		for range 2 {
			x, _ := d.Read("a")
			y, _ := d.ReadAt("a", 0, 9)
			z, _ := d.ReadAt("a", 0, 5)
			v, _ := d.ReadAt("a", 2, 0)
			w, _ := d.Read("c")
			l = append(l, x, y, z, v, w)
			for _, f := range d.Files() {
				l = append(l, f.Bytes)
			}
		}
		return l
	}
	want := all()
	for i := range want {
		told := all()
		_ = append(told[i], "################################"...)
		fill(told[i][:cap(told[i])], '#')
		for k, b := range told {
			if k != i && !bytes.Equal(b, want[k]) {
				t.Errorf("answers %d and %d share memory: %q", i, k, b)
			}
		}
		sures(t, d, "a:hello|more b:world| c:|")
	}
	names, _ := d.Names()
	files := d.Files()
	fill(names[:cap(names)], "x")
	fill(files[:cap(files)], api.File{})
	sures(t, d, "a:hello|more b:world| c:|")
}

// R2: answers that were told stay as they were, whatever is written later.
func TestAnswersStay(t *testing.T) {
	d := loaded(t, "a:hello b:world")
	read, _ := d.Read("a")
	part, _ := d.ReadAt("a", 1, 3)
	names, _ := d.Names()
	files := d.Files()
	d.Cut("a", 0)
	d.Append("a", []byte("XXXXXXXX"))
	d.Rename("b", "c")
	d.Remove("a")
	if string(read) != "hello" || string(part) != "ell" || strings.Join(names, " ") != "a b" {
		t.Errorf("%q, %q, %q", read, part, names)
	}
	if len(files) != 2 || string(files[0].Bytes) != "hello" || string(files[1].Bytes) != "world" {
		t.Errorf("%q", files)
	}
}

// P10.6: disks have nothing in common but what they were made of: files, power, what is armed, counts, locks.
func TestDisksKeepToThemselves(t *testing.T) {
	d := loaded(t, "a:hello b:")
	d.Append("a", []byte("xy"))
	d.Arm(2, 1, 1)
	c, e := disk.Load(d.Files(), d.Room())
	is(t, "Load", e, api.OK)
	sures(t, c, "a:helloxy| b:|")
	if c.Writes() != 0 || c.Room() != 100 {
		t.Errorf("%d writes, room %d", c.Writes(), c.Room())
	}
	goesOn(t, c)
	c.Append("b", []byte("only here"))
	c.Cut("a", 1)
	sures(t, d, "a:hello|xy b:|")
	is(t, "the first", d.Append("a", []byte("z")), api.OK)
	is(t, "the second", d.Remove("b"), api.ErrDiskOff)
	if c.Off() || !d.Off() {
		t.Errorf("off: %v, %v", c.Off(), d.Off())
	}
	stands(t, d, "a:helloxy")
	sures(t, c, "a:h| b:|only here")
	off, e := disk.Load(d.Files(), d.Room())
	if is(t, "Load of one that is off", e, api.OK); off.Off() || off.Writes() != 0 {
		t.Error("the power is off")
	}
	off.Append("a", []byte("!"))
	d.On()
	sures(t, d, "a:helloxy|")
	x, y := made(t, 10), made(t, 10)
	x.Append("a", []byte("x"))
	x.Arm(1, 0, 0)
	stands(t, y, "")
	is(t, "a write of the other", y.Append("a", nil), api.OK)
}
