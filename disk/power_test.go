package disk_test

import (
	"math"
	"math/rand"
	"strings"
	"testing"

	"fathom/api"
	"fathom/disk"
)

// The chapter's examples 3 and 4.
func TestExamplesOfPower(t *testing.T) {
	d := loaded(t, "b:hell")
	d.Append("b", []byte("xy"))
	sures(t, d, "b:hell|xy")
	d.Arm(1, 3, 4)
	is(t, "torn", d.Append("b", []byte("1234")), api.ErrDiskOff)
	b, e := d.Read("b")
	if is(t, "Read", e, api.ErrDiskOff); len(b) != 0 || !d.Off() {
		t.Errorf("%q, %v", b, d.Off())
	}
	stands(t, d, "b:hellx")
	d.On()
	sures(t, d, "b:hellx|")
	if d.Writes() != 2 {
		t.Errorf("%d writes", d.Writes())
	}
	d.Arm(1, 0, 9)
	is(t, "Remove", d.Remove("b"), api.ErrDiskOff)
	d.On()
	sures(t, d, "b:hellx|")
	d.Append("b", []byte("z"))
	d.Arm(1, 1, 9)
	is(t, "Sync", d.Sync("b"), api.ErrDiskOff)
	d.On()
	sures(t, d, "b:hellxz|")
	d.Append("b", []byte("w"))
	d.Arm(1, 0, 9)
	is(t, "Sync", d.Sync("b"), api.ErrDiskOff)
	d.On()
	sures(t, d, "b:hellxz|")
	d.Arm(1, 0, 0)
	is(t, "Append", d.Append("n", []byte("z")), api.ErrDiskOff)
	d.On()
	sures(t, d, "b:hellxz|")
}

// P10.4: each write torn, by what is kept of it; with nothing lost, and with all.
func TestTornWrites(t *testing.T) {
	for _, c := range []struct {
		name     string
		do       func(d *disk.Disk) api.Errno
		keep     int
		none     string // what stands if nothing is lost
		all, two string // if all is, or two bytes of each
	}{
		{"Append 2", func(d *disk.Disk) api.Errno { return d.Append("a", []byte("123")) }, 2, "a:AAaaa12 b:BBb", "a:AA b:BB", "a:AAaaa b:BB"},
		{"Append 0", func(d *disk.Disk) api.Errno { return d.Append("a", []byte("123")) }, 0, "a:AAaaa b:BBb", "a:AA b:BB", "a:AAa b:BB"},
		{"Append -1", func(d *disk.Disk) api.Errno { return d.Append("a", []byte("123")) }, -1, "a:AAaaa b:BBb", "a:AA b:BB", "a:AAa b:BB"},
		{"Append least", func(d *disk.Disk) api.Errno { return d.Append("a", []byte("123")) }, math.MinInt, "a:AAaaa b:BBb", "a:AA b:BB", "a:AAa b:BB"},
		{"Append 3", func(d *disk.Disk) api.Errno { return d.Append("a", []byte("123")) }, 3, "a:AAaaa123 b:BBb", "a:AA b:BB", "a:AAaaa1 b:BB"},
		{"Append 4", func(d *disk.Disk) api.Errno { return d.Append("a", []byte("123")) }, 4, "a:AAaaa123 b:BBb", "a:AA b:BB", "a:AAaaa1 b:BB"},
		{"Append greatest", func(d *disk.Disk) api.Errno { return d.Append("a", []byte("123")) }, math.MaxInt, "a:AAaaa123 b:BBb", "a:AA b:BB", "a:AAaaa1 b:BB"},
		{"a new file 0", func(d *disk.Disk) api.Errno { return d.Append("c", []byte("123")) }, 0, "a:AAaaa b:BBb", "a:AA b:BB", "a:AAa b:BB"},
		{"a new file -1", func(d *disk.Disk) api.Errno { return d.Append("c", []byte("123")) }, -1, "a:AAaaa b:BBb", "a:AA b:BB", "a:AAa b:BB"},
		{"a new file 1", func(d *disk.Disk) api.Errno { return d.Append("c", []byte("123")) }, 1, "a:AAaaa b:BBb c:1", "a:AA b:BB c:", "a:AAa b:BB c:"},
		{"a new file 3", func(d *disk.Disk) api.Errno { return d.Append("c", []byte("123")) }, 3, "a:AAaaa b:BBb c:123", "a:AA b:BB c:", "a:AAa b:BB c:1"},
		{"a new empty file 0", func(d *disk.Disk) api.Errno { return d.Append("c", nil) }, 0, "a:AAaaa b:BBb", "a:AA b:BB", "a:AAa b:BB"},
		{"a new empty file 1", func(d *disk.Disk) api.Errno { return d.Append("c", nil) }, 1, "a:AAaaa b:BBb c:", "a:AA b:BB c:", "a:AAa b:BB c:"},
		{"Cut 0", func(d *disk.Disk) api.Errno { return d.Cut("a", 4) }, 0, "a:AAaaa b:BBb", "a:AA b:BB", "a:AAa b:BB"},
		{"Cut 1", func(d *disk.Disk) api.Errno { return d.Cut("a", 4) }, 1, "a:AAaa b:BBb", "a:AA b:BB", "a:AA b:BB"},
		{"Cut of what is sure 0", func(d *disk.Disk) api.Errno { return d.Cut("a", 1) }, 0, "a:AAaaa b:BBb", "a:AA b:BB", "a:AAa b:BB"},
		{"Cut of what is sure 1", func(d *disk.Disk) api.Errno { return d.Cut("a", 1) }, 1, "a:A b:BBb", "a:A b:BB", "a:A b:BB"},
		{"Rename 0", func(d *disk.Disk) api.Errno { return d.Rename("a", "b") }, 0, "a:AAaaa b:BBb", "a:AA b:BB", "a:AAa b:BB"},
		{"Rename -7", func(d *disk.Disk) api.Errno { return d.Rename("a", "b") }, -7, "a:AAaaa b:BBb", "a:AA b:BB", "a:AAa b:BB"},
		{"Rename 1", func(d *disk.Disk) api.Errno { return d.Rename("a", "b") }, 1, "b:AAaaa", "b:AA", "b:AAa"},
		{"Rename to a new one 0", func(d *disk.Disk) api.Errno { return d.Rename("b", "c") }, 0, "a:AAaaa b:BBb", "a:AA b:BB", "a:AAa b:BB"},
		{"Rename to a new one 9", func(d *disk.Disk) api.Errno { return d.Rename("b", "c") }, 9, "a:AAaaa c:BBb", "a:AA c:BB", "a:AAa c:BB"},
		{"Rename to itself", func(d *disk.Disk) api.Errno { return d.Rename("a", "a") }, 1, "a:AAaaa b:BBb", "a:AA b:BB", "a:AAa b:BB"},
		{"Remove 0", func(d *disk.Disk) api.Errno { return d.Remove("a") }, 0, "a:AAaaa b:BBb", "a:AA b:BB", "a:AAa b:BB"},
		{"Remove 1", func(d *disk.Disk) api.Errno { return d.Remove("a") }, 1, "b:BBb", "b:BB", "b:BB"},
		{"Sync 0", func(d *disk.Disk) api.Errno { return d.Sync("a") }, 0, "a:AAaaa b:BBb", "a:AA b:BB", "a:AAa b:BB"},
		{"Sync 1", func(d *disk.Disk) api.Errno { return d.Sync("a") }, 1, "a:AAaaa b:BBb", "a:AAaaa b:BB", "a:AAaaa b:BB"},
	} {
		t.Run(c.name, func(t *testing.T) {
			for lose, want := range map[int]string{0: c.none, -1: c.none, math.MinInt: c.none, 2: c.two, 9: c.all, math.MaxInt: c.all} {
				d := loaded(t, "a:AA b:BB")
				d.Append("a", []byte("aaa"))
				d.Append("b", []byte("b"))
				d.Arm(1, c.keep, lose)
				is(t, "torn", c.do(d), api.ErrDiskOff)
				if !d.Off() || d.Writes() != 3 {
					t.Errorf("off %v, %d writes", d.Off(), d.Writes())
				}
				stands(t, d, want)
				d.On()
				allSure(t, d)
				stands(t, d, want)
				goesOn(t, d)
			}
		})
	}
}

// allSure: the power is on, and all bytes of all files are sure.
func allSure(t *testing.T, d *disk.Disk) {
	t.Helper()
	for _, f := range d.Files() {
		if n, e := d.Sure(f.Name); n != len(f.Bytes) || e != api.OK {
			t.Errorf("of %s %d are sure, %d; want %d", f.Name, n, e, len(f.Bytes))
		}
	}
}

// goesOn: nothing is armed any more.
func goesOn(t *testing.T, d *disk.Disk) {
	t.Helper()
	for range 20 {
		is(t, "a write", d.Append("x", nil), api.OK)
	}
	is(t, "Remove", d.Remove("x"), api.OK)
}

// P10.4: just the n-th write is torn; neither reading nor what is refused counts.
func TestArmCounts(t *testing.T) {
	for n := 1; n < 12; n++ {
		d := loaded(t, "a:hello")
		d.Arm(n, 0, 0)
		for i := 1; i < n; i++ {
			is(t, "ahead", d.Append("a", []byte{'0' + byte(i%10)}), api.OK)
			noWrites(t, d)
		}
		if d.Off() {
			t.Errorf("off ahead of write %d", n)
		}
		is(t, "the n-th", d.Append("a", []byte("x")), api.ErrDiskOff)
		readsOff(t, d)
		stands(t, d, "a:hello1234567890"[:7+n-1])
		if d.Writes() != n {
			t.Errorf("%d writes, want %d", d.Writes(), n)
		}
		d.On()
		goesOn(t, d)
	}
	for i, do := range allWrites() {
		d := loaded(t, "a:hello")
		d.Arm(6, 1, 0)
		for k := range 5 {
			is(t, "each write counts", do(d), api.OK)
			if d.Off() {
				t.Fatalf("write %d: off behind %d", i, k+1)
			}
		}
		is(t, "the sixth", do(d), api.ErrDiskOff)
	}
}

// allWrites may each be done many times on a disk with a file a.
func allWrites() []func(d *disk.Disk) api.Errno {
	return []func(d *disk.Disk) api.Errno{
		func(d *disk.Disk) api.Errno { return d.Append("a", nil) },
		func(d *disk.Disk) api.Errno { return d.Append("new", []byte("x")) },
		func(d *disk.Disk) api.Errno { return d.Cut("a", 5) },
		func(d *disk.Disk) api.Errno { return d.Rename("a", "a") },
		func(d *disk.Disk) api.Errno { return d.Sync("a") },
		func(d *disk.Disk) api.Errno {
			name := d.Files()[0].Name
			return d.Rename(name, name+"a")
		},
		func(d *disk.Disk) api.Errno {
			c := d.Files()
			if len(c) == 1 {
				return d.Append("b", nil)
			}
			return d.Remove("b")
		},
	}
}

// noWrites does all that is no write.
func noWrites(t *testing.T, d *disk.Disk) {
	t.Helper()
	d.Read("a")
	d.ReadAt("a", 0, 1)
	d.Size("a")
	d.Sure("a")
	d.Names()
	d.Files()
	d.Off()
	d.On()
	d.Writes()
	d.Room()
	is(t, "no room", d.Append("a", make([]byte, 101)), api.ErrDiskFull)
	is(t, "no name", d.Append("A", nil), api.ErrDiskName)
	is(t, "no size", d.Cut("a", 999), api.ErrDiskCut)
	is(t, "no file", d.Cut("none", 0), api.ErrDiskNone)
	is(t, "no file", d.Rename("none", "a"), api.ErrDiskNone)
	is(t, "no name", d.Rename("a", ""), api.ErrDiskName)
	is(t, "no file", d.Remove("none"), api.ErrDiskNone)
	is(t, "no file", d.Sync("none"), api.ErrDiskNone)
}

// readsOff: what is told while the power is off.
func readsOff(t *testing.T, d *disk.Disk) {
	t.Helper()
	if l, e := d.Names(); len(l) != 0 || e != api.ErrDiskOff {
		t.Errorf("Names: %q, %d", l, e)
	}
	for what, call := range calls(d, "a") {
		if e, zero := call(); e != api.ErrDiskOff || !zero {
			t.Errorf("%s: %d", what, e)
		}
	}
	if !d.Off() || d.Room() != 100 || len(d.Files()) == 0 {
		t.Errorf("off %v, room %d, %d files", d.Off(), d.Room(), len(d.Files()))
	}
}

// P10.4: what was armed is not any more when something else is, or nothing.
func TestArmAnew(t *testing.T) {
	for _, n := range []int{0, -1, -2, math.MinInt, math.MinInt + 1, math.MaxInt} {
		d := loaded(t, "a:hello")
		d.Arm(1, 0, 9)
		d.Arm(n, 0, 9)
		goesOn(t, d)
		stands(t, d, "a:hello")
	}
	d := loaded(t, "a:hello")
	d.Append("a", []byte("1234"))
	d.Arm(1, 9, 9)
	d.Arm(2, 1, 2)
	is(t, "the first", d.Append("a", []byte("x")), api.OK)
	is(t, "the second", d.Append("a", []byte("yz")), api.ErrDiskOff)
	stands(t, d, "a:hello1234")
	d = loaded(t, "a:hello")
	d.Arm(3, 1, 1)
	d.Append("a", nil)
	d.Arm(3, 1, 0)
	is(t, "counted anew", d.Append("a", nil), api.OK)
	is(t, "counted anew", d.Append("a", nil), api.OK)
	is(t, "counted anew", d.Append("a", []byte("xyz")), api.ErrDiskOff)
	stands(t, d, "a:hellox")
}

// P10.4, P10.5: it may be armed while the power is off; neither On nor what is refused takes that back.
func TestArmWhileOff(t *testing.T) {
	d := loaded(t, "a:hello")
	d.Arm(1, 0, 0)
	is(t, "torn", d.Sync("a"), api.ErrDiskOff)
	d.Arm(2, 1, 0)
	for range 5 {
		is(t, "off", d.Append("a", []byte("x")), api.ErrDiskOff)
	}
	d.On()
	d.On()
	is(t, "the first", d.Append("a", []byte("x")), api.OK)
	is(t, "the second", d.Append("a", []byte("yz")), api.ErrDiskOff)
	stands(t, d, "a:helloxy")
	if d.Writes() != 3 {
		t.Errorf("%d writes", d.Writes())
	}
	d.Arm(1, 0, 0)
	d.Arm(0, 0, 0)
	d.On()
	goesOn(t, d)
}

// P10.5: On while the power is on makes nothing sure; while it is off, all.
func TestOn(t *testing.T) {
	d := loaded(t, "a:AA")
	d.Append("a", []byte("a"))
	d.Append("b", []byte("b"))
	d.On()
	sures(t, d, "a:AA|a b:|b")
	d.Arm(1, 0, 0)
	is(t, "torn", d.Append("a", []byte("z")), api.ErrDiskOff)
	stands(t, d, "a:AAa b:b")
	d.On()
	sures(t, d, "a:AAa| b:b|")
	if d.Off() || d.Writes() != 3 {
		t.Errorf("off %v, %d writes", d.Off(), d.Writes())
	}
	d.Arm(1, 9, 9)
	is(t, "torn again", d.Append("a", []byte("z")), api.ErrDiskOff)
	d.On()
	sures(t, d, "a:AAa| b:b|")
}

// P10.8: when the power goes, each file that the torn write does not name becomes a beginning of what it was, no shorter than what was sure of it.
func TestWhatIsSureStays(t *testing.T) {
	rnd := rand.New(rand.NewSource(108))
	for range 3000 {
		d, m := made(t, 60), &model{room: 60}
		for range 20 {
			step(t, rnd, d, m)
		}
		d.On()
		was, sure := map[string]string{}, map[string]int{}
		for _, f := range d.Files() {
			was[f.Name] = string(f.Bytes)
			sure[f.Name], _ = d.Sure(f.Name)
		}
		d.Arm(1, someNumber(rnd), someNumber(rnd))
		from, to := tornBy(rnd, d)
		if !d.Off() {
			t.Fatal("the power is on")
		}
		is := map[string]string{}
		for _, f := range d.Files() {
			is[f.Name] = string(f.Bytes)
		}
		for name, text := range was {
			left, there := is[name]
			if name != from && name != to && (!there || len(left) < sure[name] || !strings.HasPrefix(text, left)) {
				t.Fatalf("%s was %q, %d of it sure, and is %q", name, text, sure[name], left)
			}
		}
	}
}

// tornBy does any write that is not refused, and tells the names that it names.
func tornBy(rnd *rand.Rand, d *disk.Disk) (from, to string) {
	for !d.Off() {
		from, to = someName(rnd), someName(rnd)
		switch rnd.Intn(5) {
		case 0:
			to = from
			d.Append(from, make([]byte, rnd.Intn(5)))
		case 1:
			to = from
			d.Cut(from, rnd.Intn(9))
		case 2:
			d.Rename(from, to)
		case 3:
			to = from
			d.Remove(from)
		case 4:
			to = from
			d.Sync(from)
		}
	}
	return from, to
}
