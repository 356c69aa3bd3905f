package journal_test

import (
	"encoding/binary"
	"fmt"
	"hash/crc32"
	"testing"

	"fathom/api"
	"fathom/disk"
	"fathom/journal"
)

const head = "FATHOMJ1"

// rec is a record's rows, as texts.
type rec []string

// sealed tells a record's bytes of any body.
func sealed(body string) string {
	size := string(binary.BigEndian.AppendUint32(nil, uint32(len(body))))
	sum := crc32.ChecksumIEEE([]byte(size + body))
	return size + string(binary.BigEndian.AppendUint32(nil, sum)) + body
}

// bodyOf tells a record's body.
func bodyOf(r rec) string {
	body := ""
	for _, row := range r {
		body += string(binary.BigEndian.AppendUint32(nil, uint32(len(row)))) + row
	}
	return body
}

// fileOf tells a file's bytes.
func fileOf(records ...rec) string {
	text := head
	for _, r := range records {
		text += sealed(bodyOf(r))
	}
	return text
}

// written tells a record's rows as they are handed in.
func written(r rec) [][]byte {
	rows := [][]byte{}
	for _, row := range r {
		rows = append(rows, []byte(row))
	}
	return rows
}

// told tells records by a text, in which nil and empty are one.
func told(records [][][]byte) string { return fmt.Sprintf("%q", records) }

func asTold(records ...rec) string {
	l := [][][]byte{}
	for _, r := range records {
		l = append(l, written(r))
	}
	return told(l)
}

func made(t *testing.T, room int) *disk.Disk {
	t.Helper()
	d, e := disk.New(room)
	is(t, "New", e, api.OK)
	return d
}

// loaded tells a disk with a file j of that text, all sure.
func loaded(t *testing.T, text string) *disk.Disk {
	t.Helper()
	d, e := disk.Load([]api.File{{Name: "j", Bytes: []byte(text)}}, len(text)+1000)
	is(t, "Load", e, api.OK)
	return d
}

// is: a call's error is that.
func is(t *testing.T, what string, got, want api.Errno) {
	t.Helper()
	if got != want {
		t.Errorf("%s: %d, want %d", what, got, want)
	}
}

// opened: Open tells these records, and the file then has just them, all sure.
func opened(t *testing.T, d *disk.Disk, want ...rec) *journal.Log {
	t.Helper()
	l, records, e := journal.Open(d, "j")
	if e != api.OK || told(records) != asTold(want...) {
		t.Fatalf("Open: %.200s, %d; want %.200s", told(records), e, asTold(want...))
	}
	holds(t, d, l, want...)
	return l
}

// holds: the log says, and the file has, just these records, all sure.
func holds(t *testing.T, d *disk.Disk, l *journal.Log, want ...rec) {
	t.Helper()
	text := fileOf(want...)
	if l.Size() != len(text) || l.Count() != len(want) || l.Name() != "j" {
		t.Errorf("Size %d, Count %d, Name %q; want %d, %d", l.Size(), l.Count(), l.Name(), len(text), len(want))
	}
	stands(t, d, text)
	if n, e := d.Sure("j"); n != len(text) || e != api.OK {
		t.Errorf("%d sure, %d; want %d", n, e, len(text))
	}
}

// stands: the file j, of no other one, has that text, power or not.
func stands(t *testing.T, d *disk.Disk, text string) {
	t.Helper()
	files := d.Files()
	if len(files) != 1 || files[0].Name != "j" || string(files[0].Bytes) != text {
		t.Errorf("stands %.300q, want j: %.300q", files, text)
	}
}

// refused: Open tells that error, and nothing beside it.
func refused(t *testing.T, d *disk.Disk, name string, want api.Errno) {
	t.Helper()
	l, records, e := journal.Open(d, name)
	if l != nil || len(records) != 0 || e != want {
		t.Errorf("Open: %v, %s, %d; want %d", l, told(records), e, want)
	}
}
