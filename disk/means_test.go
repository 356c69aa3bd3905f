package disk_test

import (
	"strconv"
	"strings"
	"testing"

	"fathom/api"
	"fathom/disk"
)

func made(t *testing.T, room int) *disk.Disk {
	t.Helper()
	d, e := disk.New(room)
	if d == nil || e != api.OK {
		t.Fatalf("New(%d): %d", room, e)
	}
	return d
}

// loaded tells a disk of a room of 100 with such files: "a:hello b:".
func loaded(t *testing.T, files string) *disk.Disk {
	t.Helper()
	l := []api.File{}
	for _, word := range strings.Fields(files) {
		name, text, _ := strings.Cut(word, ":")
		l = append(l, api.File{Name: name, Bytes: []byte(text)})
	}
	d, e := disk.Load(l, 100)
	if d == nil || e != api.OK {
		t.Fatalf("Load of %s: %d", files, e)
	}
	return d
}

// is: a call's error is that.
func is(t *testing.T, what string, got, want api.Errno) {
	t.Helper()
	if got != want {
		t.Errorf("%s: %d, want %d", what, got, want)
	}
}

// stands: all files are those, with what is told of them off or on.
func stands(t *testing.T, d *disk.Disk, want string) {
	t.Helper()
	l := []string{}
	for _, f := range d.Files() {
		l = append(l, f.Name+":"+string(f.Bytes))
	}
	if got := strings.Join(l, " "); got != want {
		t.Errorf("stands %q, want %q", got, want)
	}
}

// sures: all files are those, what is sure of each ahead of a bar: "a:hel|lo".
func sures(t *testing.T, d *disk.Disk, want string) {
	t.Helper()
	l := []string{}
	for _, f := range d.Files() {
		n, e := d.Sure(f.Name)
		if e != api.OK || n < 0 || n > len(f.Bytes) {
			t.Errorf("Sure of %s: %d, %d", f.Name, n, e)
			return
		}
		l = append(l, f.Name+":"+string(f.Bytes[:n])+"|"+string(f.Bytes[n:]))
	}
	if got := strings.Join(l, " "); got != want {
		t.Errorf("stands %q, want %q", got, want)
	}
}

func readsAs(t *testing.T, d *disk.Disk, name, want string) {
	t.Helper()
	if b, e := d.Read(name); string(b) != want || e != api.OK {
		t.Errorf("Read %s: %q, %d; want %q", name, b, e, want)
	}
}

// manyFiles tells n files of no bytes.
func manyFiles(n int) []api.File {
	l := []api.File{}
	for i := range n {
		l = append(l, api.File{Name: "f" + strconv.Itoa(i)})
	}
	return l
}

// calls are all that take a file's name, with what they tell beside an error put together: true if that is zero.
func calls(d *disk.Disk, name string) map[string]func() (api.Errno, bool) {
	return map[string]func() (api.Errno, bool){
		"Append":      func() (api.Errno, bool) { return d.Append(name, []byte("x")), true },
		"Cut":         func() (api.Errno, bool) { return d.Cut(name, 0), true },
		"Rename":      func() (api.Errno, bool) { return d.Rename(name, name), true },
		"Rename from": func() (api.Errno, bool) { return d.Rename(name, "there"), true },
		"Rename to":   func() (api.Errno, bool) { return d.Rename("there", name), true },
		"Remove":      func() (api.Errno, bool) { return d.Remove(name), true },
		"Sync":        func() (api.Errno, bool) { return d.Sync(name), true },
		"Read":        func() (api.Errno, bool) { b, e := d.Read(name); return e, len(b) == 0 },
		"ReadAt":      func() (api.Errno, bool) { b, e := d.ReadAt(name, 0, 0); return e, len(b) == 0 },
		"Size":        func() (api.Errno, bool) { n, e := d.Size(name); return e, n == 0 },
		"Sure":        func() (api.Errno, bool) { n, e := d.Sure(name); return e, n == 0 },
	}
}
