package disk_test

import (
	"strings"
	"testing"

	"fathom/api"
	"fathom/disk"
)

// named: in each call, and in Load, a name is taken or refused.
func named(t *testing.T, name string, may bool) {
	t.Helper()
	d := loaded(t, "there:hello")
	for what, call := range calls(d, name) {
		e, zero := call()
		if may == (e == api.ErrDiskName) || !may && !zero {
			t.Errorf("%s of %q: %d", what, name, e)
		}
	}
	c, e := disk.Load([]api.File{{Name: name}}, 10)
	if may != (e == api.OK) || may != (c != nil) || !may && e != api.ErrDiskFile {
		t.Errorf("Load of %q: %d", name, e)
	}
	if !may {
		sures(t, d, "there:hello|")
		if d.Writes() != 0 {
			t.Errorf("%q: %d writes", name, d.Writes())
		}
	}
}

// P10.2, P10.3: which bytes a name may have: each one alone, at the front, within, at the end.
func TestNamesBytes(t *testing.T) {
	const good = "abcdefghijklmnopqrstuvwxyz0123456789.-_"
	for c := range 256 {
		x := string([]byte{byte(c)})
		may := strings.Contains(good, x)
		for _, name := range []string{x, x + "a", "a" + x, "a" + x + "a", strings.Repeat("a", 63) + x, x + strings.Repeat("a", 63)} {
			named(t, name, may)
		}
	}
}

// P10.2, P10.3: how long a name may be.
func TestNamesLengths(t *testing.T) {
	for size := range 70 {
		named(t, strings.Repeat("k", size), size >= 1 && size <= api.MaxFile)
	}
	for _, name := range []string{good64(), "..", "-", "_", "...", "manifest.new", "seg.18446744073709551615", "0"} {
		named(t, name, true)
	}
	for _, name := range []string{"a b", " a", "a/b", "a\\b", "a:b", "é", "日", "a\n", "aA", "Z", "a,b", "a+b", strings.Repeat("a", 1<<20), "\xc3", "ａ"} {
		named(t, name, false)
	}
}

func good64() string { return strings.Repeat("a0.-_z9b", 8) }

// P10.2: the power goes ahead of the name, the name ahead of the file; of Rename both names.
func TestErrorsInOrder(t *testing.T) {
	d := loaded(t, "there:hello")
	for _, name := range []string{"", "A", "none"} {
		want := api.ErrDiskName
		if name == "none" {
			want = api.ErrDiskNone
		}
		for what, call := range calls(d, name) {
			if name == "none" && (what == "Append" || what == "Rename to") {
				continue // these make it
			}
			if e, zero := call(); e != want || !zero {
				t.Errorf("%s of %q: %d", what, name, e)
			}
		}
	}
	is(t, "a name ahead of a file", d.Rename("none", "B"), api.ErrDiskName)
	is(t, "a name ahead of a file", d.Rename("B", "there"), api.ErrDiskName)
	is(t, "a name ahead of a size", d.Cut("B", -1), api.ErrDiskName)
	is(t, "a file ahead of a size", d.Cut("none", -1), api.ErrDiskNone)
	is(t, "a name ahead of the room", d.Append("B", make([]byte, 101)), api.ErrDiskName)
	_, e := d.ReadAt("B", -1, -1)
	is(t, "a name ahead of a range", e, api.ErrDiskName)
	_, e = d.ReadAt("none", -1, -1)
	is(t, "a file ahead of a range", e, api.ErrDiskNone)
	d.Arm(1, 0, 0)
	is(t, "torn", d.Sync("there"), api.ErrDiskOff)
	for _, name := range []string{"", "A", "none", "there"} {
		for what, call := range calls(d, name) {
			if e, zero := call(); e != api.ErrDiskOff || !zero {
				t.Errorf("%s of %q: %d", what, name, e)
			}
		}
	}
	is(t, "off ahead of a size", d.Cut("there", -1), api.ErrDiskOff)
	is(t, "off ahead of the room", d.Append("there", make([]byte, 101)), api.ErrDiskOff)
	_, e = d.ReadAt("there", -1, -1)
	is(t, "off ahead of a range", e, api.ErrDiskOff)
	stands(t, d, "there:hello")
	if d.Writes() != 1 {
		t.Errorf("%d writes", d.Writes())
	}
}
