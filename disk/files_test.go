package disk_test

import (
	"math"
	"strconv"
	"testing"

	"fathom/api"
	"fathom/disk"
)

// The chapter's examples 1 and 2; 3 and 4 stand in power_test.go, 5 in load_test.go.
func TestExamplesOfFiles(t *testing.T) {
	d := made(t, 10)
	is(t, "Append a", d.Append("a", []byte("hello")), api.OK)
	is(t, "Append b", d.Append("b", nil), api.OK)
	stands(t, d, "a:hello b:")
	is(t, "too much", d.Append("a", []byte("worlds")), api.ErrDiskFull)
	is(t, "A", d.Append("A", []byte("x")), api.ErrDiskName)
	for name, want := range map[string]api.Errno{"": api.ErrDiskName, "c": api.ErrDiskNone} {
		b, e := d.Read(name)
		if is(t, "Read", e, want); len(b) != 0 {
			t.Errorf("%q", b)
		}
	}
	sures(t, d, "a:|hello b:|")
	is(t, "Sync", d.Sync("a"), api.OK)
	sures(t, d, "a:hello| b:|")
	is(t, "Cut 6", d.Cut("a", 6), api.ErrDiskCut)
	is(t, "Cut -1", d.Cut("a", -1), api.ErrDiskCut)
	is(t, "Cut 4", d.Cut("a", 4), api.OK)
	sures(t, d, "a:hell| b:|")
	ranges(t, d, "a", "hell")
	if d.Writes() != 4 {
		t.Errorf("%d writes", d.Writes())
	}
	is(t, "Rename", d.Rename("a", "b"), api.OK)
	sures(t, d, "b:hell|")
	is(t, "Rename b b", d.Rename("b", "b"), api.OK)
	is(t, "Rename a c", d.Rename("a", "c"), api.ErrDiskNone)
	sures(t, d, "b:hell|")
	if d.Writes() != 6 {
		t.Errorf("%d writes", d.Writes())
	}
}

// ranges: each range of a file is told, and no other one.
func ranges(t *testing.T, d *disk.Disk, name, text string) {
	t.Helper()
	edges := []int{math.MinInt, math.MinInt + 1, -2, -1, math.MaxInt - 1, math.MaxInt, math.MaxInt - len(text), math.MaxInt - len(text) + 1}
	for i := range len(text) + 3 {
		edges = append(edges, i)
	}
	for _, from := range edges {
		for _, n := range edges {
			b, e := d.ReadAt(name, from, n)
			if from >= 0 && from <= len(text) && n >= 0 && n <= len(text) && from+n <= len(text) {
				if string(b) != text[from:from+n] || e != api.OK {
					t.Errorf("ReadAt %d, %d: %q, %d", from, n, b, e)
				}
			} else if len(b) != 0 || e != api.ErrDiskCut {
				t.Errorf("ReadAt %d, %d: %q, %d", from, n, b, e)
			}
		}
	}
}

// P10.3: all ranges of files, of one without bytes too.
func TestReadAt(t *testing.T) {
	d := loaded(t, "a:0123456789 b: c:x")
	is(t, "Append", d.Append("a", []byte("abcde")), api.OK)
	ranges(t, d, "a", "0123456789abcde")
	ranges(t, d, "b", "")
	ranges(t, d, "c", "x")
	if d.Writes() != 1 {
		t.Errorf("reading wrote: %d", d.Writes())
	}
}

// P10.2: what is laid is there, behind what was; what was sure is, the new is not.
func TestAppend(t *testing.T) {
	d := loaded(t, "a:one")
	is(t, "Append", d.Append("a", []byte("two")), api.OK)
	is(t, "Append", d.Append("new", []byte("x")), api.OK)
	is(t, "Append of none", d.Append("empty", []byte{}), api.OK)
	is(t, "Append of nil", d.Append("a", nil), api.OK)
	sures(t, d, "a:one|two empty:| new:|x")
	is(t, "Append", d.Append("a", []byte{0, 255, '|'}), api.OK)
	readsAs(t, d, "a", "onetwo\x00\xff|")
	if n, e := d.Size("a"); n != 9 || e != api.OK {
		t.Errorf("Size: %d, %d", n, e)
	}
	if n, e := d.Sure("a"); n != 3 || e != api.OK {
		t.Errorf("Sure: %d, %d", n, e)
	}
}

// P10.2: all files' bytes count for the room, and what is cut, put aside or taken away gives room.
func TestRoom(t *testing.T) {
	d := made(t, 10)
	is(t, "the whole room and one", d.Append("a", make([]byte, 11)), api.ErrDiskFull)
	stands(t, d, "")
	is(t, "four", d.Append("a", []byte("aaaa")), api.OK)
	is(t, "seven", d.Append("b", []byte("bbbbbbb")), api.ErrDiskFull)
	is(t, "six", d.Append("b", []byte("bbbbbb")), api.OK)
	is(t, "none", d.Append("c", nil), api.OK)
	is(t, "one", d.Append("a", []byte("a")), api.ErrDiskFull)
	is(t, "one in a new one", d.Append("d", []byte("d")), api.ErrDiskFull)
	stands(t, d, "a:aaaa b:bbbbbb c:")
	is(t, "Cut", d.Cut("a", 3), api.OK)
	is(t, "two", d.Append("c", []byte("cc")), api.ErrDiskFull)
	is(t, "one", d.Append("c", []byte("c")), api.OK)
	is(t, "Rename", d.Rename("c", "b"), api.OK)
	is(t, "seven", d.Append("a", []byte("aaaaaaa")), api.ErrDiskFull)
	is(t, "six", d.Append("a", []byte("xxxxxx")), api.OK)
	is(t, "Remove", d.Remove("a"), api.OK)
	is(t, "ten", d.Append("a", make([]byte, 10)), api.ErrDiskFull)
	is(t, "nine", d.Append("a", []byte("123456789")), api.OK)
	sures(t, d, "a:|123456789 b:|c")
	if d.Writes() != 9 {
		t.Errorf("%d writes", d.Writes())
	}
}

// P10.2: no more than MaxFiles files, of no bytes too; those that are there may grow.
func TestManyFiles(t *testing.T) {
	d := made(t, 1000)
	for i := range api.MaxFiles {
		is(t, "one more", d.Append("f"+strconv.Itoa(i), nil), api.OK)
	}
	is(t, "one too many", d.Append("g", []byte("x")), api.ErrDiskFull)
	is(t, "one too many, of no bytes", d.Append("g", nil), api.ErrDiskFull)
	is(t, "one that is there", d.Append("f255", []byte("x")), api.OK)
	is(t, "another name", d.Rename("f0", "g"), api.OK)
	is(t, "the name that was", d.Append("f0", nil), api.ErrDiskFull)
	is(t, "one in the place of another", d.Rename("g", "f1"), api.OK)
	is(t, "room again", d.Append("f0", []byte("y")), api.OK)
	is(t, "but no more", d.Append("g", nil), api.ErrDiskFull)
	is(t, "Remove", d.Remove("f7"), api.OK)
	is(t, "room again", d.Append("g", nil), api.OK)
	if l, e := d.Names(); len(l) != 256 || e != api.OK {
		t.Errorf("%d names, %d", len(l), e)
	}
	if d.Writes() != 256+6 {
		t.Errorf("%d writes", d.Writes())
	}
}

// P10.2: a cut at each place, of a file that is sure as far as each place.
func TestCut(t *testing.T) {
	const text = "0123456"
	for sure := range len(text) + 1 {
		for size := range len(text) + 1 {
			d := loaded(t, "a:"+text[:sure])
			d.Append("a", []byte(text[sure:]))
			for _, bad := range []int{-1, len(text) + 1, math.MinInt, math.MaxInt} {
				is(t, "a bad size", d.Cut("a", bad), api.ErrDiskCut)
			}
			sures(t, d, "a:"+text[:sure]+"|"+text[sure:])
			is(t, "Cut", d.Cut("a", size), api.OK)
			kept := min(sure, size)
			sures(t, d, "a:"+text[:kept]+"|"+text[kept:size])
			is(t, "Append", d.Append("a", []byte("xy")), api.OK)
			sures(t, d, "a:"+text[:kept]+"|"+text[kept:size]+"xy")
			if d.Writes() != 3 {
				t.Errorf("%d writes", d.Writes())
			}
		}
	}
}

// P10.2: a file takes with it what is sure of it, and what stood under the name is gone.
func TestRename(t *testing.T) {
	d := loaded(t, "a:aa b:bbbb c:c")
	d.Append("a", []byte("xx"))
	d.Append("b", []byte("yy"))
	is(t, "to a new name", d.Rename("a", "z"), api.OK)
	sures(t, d, "b:bbbb|yy c:c| z:aa|xx")
	is(t, "in the place of one that is surer", d.Rename("z", "b"), api.OK)
	sures(t, d, "b:aa|xx c:c|")
	is(t, "to itself", d.Rename("b", "b"), api.OK)
	sures(t, d, "b:aa|xx c:c|")
	is(t, "in the place of one that is less sure", d.Rename("c", "b"), api.OK)
	sures(t, d, "b:c|")
	is(t, "none", d.Rename("c", "b"), api.ErrDiskNone)
	is(t, "none to itself", d.Rename("c", "c"), api.ErrDiskNone)
	is(t, "the name that was, anew", d.Append("c", []byte("new")), api.OK)
	sures(t, d, "b:c| c:|new")
	if d.Writes() != 7 {
		t.Errorf("%d writes", d.Writes())
	}
}

// P10.2: a file that was taken away is not there, and one made anew has nothing of it.
func TestRemove(t *testing.T) {
	d := loaded(t, "a:aa b:bbbb")
	is(t, "Remove", d.Remove("a"), api.OK)
	is(t, "again", d.Remove("a"), api.ErrDiskNone)
	is(t, "Sync", d.Sync("a"), api.ErrDiskNone)
	is(t, "Cut", d.Cut("a", 0), api.ErrDiskNone)
	sures(t, d, "b:bbbb|")
	is(t, "anew", d.Append("a", []byte("x")), api.OK)
	sures(t, d, "a:|x b:bbbb|")
	is(t, "Remove", d.Remove("b"), api.OK)
	is(t, "Remove", d.Remove("a"), api.OK)
	if l, e := d.Names(); len(l) != 0 || e != api.OK || len(d.Files()) != 0 || d.Writes() != 4 {
		t.Errorf("%q, %d; %d writes", l, e, d.Writes())
	}
}

// P10.2: Sync makes sure of one file alone.
func TestSync(t *testing.T) {
	d := made(t, 100)
	d.Append("a", []byte("aa"))
	d.Append("b", []byte("bb"))
	is(t, "Sync", d.Sync("b"), api.OK)
	sures(t, d, "a:|aa b:bb|")
	is(t, "Sync", d.Sync("b"), api.OK)
	d.Append("b", []byte("cc"))
	sures(t, d, "a:|aa b:bb|cc")
	is(t, "Sync", d.Sync("b"), api.OK)
	sures(t, d, "a:|aa b:bbcc|")
	if d.Writes() != 6 {
		t.Errorf("%d writes", d.Writes())
	}
}
