package store_test

import (
	"bytes"
	"fmt"
	"slices"
	"testing"

	"fathom/api"
	"fathom/disk"
	"fathom/roll"
	"fathom/segment"
	"fathom/store"
)

// kept is files by their names.
type files map[string][]byte

func (l files) list() []api.File {
	var out []api.File
	for name, b := range l {
		out = append(out, api.File{Name: name, Bytes: b})
	}
	return out
}

func (l files) with(name string, b []byte) files {
	c := files{}
	for n, x := range l {
		c[n] = x
	}
	c[name] = b
	return c
}

func (l files) without(name string) files {
	c := l.with(name, nil)
	delete(c, name)
	return c
}

// damaged fails unless Open refuses, and lets everything lie; the journal isn't even begun.
func damaged(t *testing.T, what string, l files) {
	t.Helper()
	d := loaded(t, l.list())
	s, e := store.Open(d, config(4, 10, 0))
	if s != nil || e != api.ErrStoreDamage {
		t.Errorf("%s: %v, %d", what, s != nil, e)
	}
	if !slices.EqualFunc(d.Files(), loaded(t, l.list()).Files(), func(a, b api.File) bool { return a.Name == b.Name && bytes.Equal(a.Bytes, b.Bytes) }) {
		t.Errorf("%s: the files have changed", what)
	}
}

// fine fails unless Open takes it.
func fine(t *testing.T, what string, l files) *store.Store {
	t.Helper()
	s, e := store.Open(loaded(t, l.list()), config(4, 10, 0))
	if e != api.OK {
		t.Fatalf("%s: %d", what, e)
	}
	return s
}

// entry, place: what a manifest says of a series, of a segment.
func entry(kind int, key string) []byte {
	return join(num(uint64(kind), 1), num(uint64(len(key)), 2), []byte(key))
}

func place(number, step uint64) []byte { return join(num(number, 8), num(step, 8)) }

func manifest(epoch, next uint64, known, parts []byte) []byte {
	return laidJournal([][]byte{join(num(epoch, 8), num(next, 8)), known, parts})
}

func built(t *testing.T, l ...api.Row) []byte {
	t.Helper()
	b, e := segment.Build(3, l)
	is(t, "Build", e, api.OK)
	return b
}

const (
	keyA = "a\x001\x00\x01" // {a="1"}
	keyB = "b\x001\x00\x01"
)

func rowOf(key string, l ...api.Point) api.Row {
	return api.Row{Key: key, Kind: api.KindWide, Run: api.Run{Points: l}}
}

func cellsOf(t *testing.T, step int64, l ...api.Point) []api.Cell {
	t.Helper()
	c, e := roll.Cells(api.Window{Step: step}, l)
	is(t, "Cells", e, api.OK)
	return c
}

// base is a good disk of two series and two segments, of which the first has cells, and a record in the journal.
func base(t *testing.T) files {
	t.Helper()
	old := rowOf(keyA, at(1, 1), at(2, 2), at(25, 3))
	old.Cells = cellsOf(t, 10, old.Run.Points...)
	return files{
		"manifest": manifest(5, 8, join(entry(1, keyB), entry(1, keyA)), join(place(7, 10), place(3, 0))),
		"seg.7":    built(t, old), "seg.3": built(t, rowOf(keyA, at(2, 9)), rowOf(keyB, at(4, 4))),
		"log.5": laidJournal([][]byte{{1}, laidWrite(keyA, 1, []api.Point{at(3, 3)})}, laidDeletion(span(25, 30), 0, 1)),
	}
}

func TestOpen(t *testing.T) {
	s := fine(t, "all", base(t))
	same(t, "Known", s.Known(), []api.Series{{Labels: set("b", "1"), Kind: 1}, {Labels: set("a", "1"), Kind: 1}})
	same(t, "Segments", s.Segments(), []api.Segment{{Number: 7, Series: 1, Points: 3, Cells: 2, Step: 10}, {Number: 3, Series: 2, Points: 2}})
	l, e := s.Select(nil, all())
	is(t, "Select", e, api.OK)
	same(t, "Select", l, []api.Series{
		{Labels: set("a", "1"), Kind: 1, Points: []api.Point{at(1, 1), at(2, 9), at(3, 3)}},
		{Labels: set("b", "1"), Kind: 1, Points: []api.Point{at(4, 4)}},
	})
	is(t, "Reads", s.Reads(), 3)
	s = fine(t, "no journal", base(t).without("log.5"))
	is(t, "Head", s.Head(), 0)
	s = fine(t, "no manifest", files{"log.0": laidJournal([][]byte{{1}, laidWrite(keyA, 2, nil)}), "seg.3": {1}})
	same(t, "Known", s.Known(), []api.Series{{Labels: set("a", "1"), Kind: 2}})
}

// TestManifestDamage: the journal is not opened where the manifest, or a segment, is refused: there is none here, and none is made.
func TestManifestDamage(t *testing.T) {
	good := base(t).without("log.5")
	known, parts := join(entry(1, keyB), entry(1, keyA)), join(place(7, 10), place(3, 0))
	ends := join(num(5, 8), num(8, 8))
	empty := files{}
	long := keyOf(t, keyed(t, api.MaxKey+1, 0))
	var keys, segs []byte
	for i := range api.MaxKeys/api.MaxKey + 1 {
		keys = join(keys, entry(1, keyOf(t, keyed(t, api.MaxKey, i))))
	}
	for i := range uint64(api.MaxSegs + 1) {
		segs = join(segs, place(i, 0))
		empty[fmt.Sprintf("seg.%d", i)] = built(t)
	}
	for what, b := range map[string][]byte{
		"no records": laidJournal(), "two records": laidJournal([][]byte{ends, known, parts}, [][]byte{ends, known, parts}),
		"no rows": laidJournal(nil), "two rows": laidJournal([][]byte{ends, known}), "four rows": laidJournal([][]byte{ends, known, parts, nil}),
		"another head": append([]byte("x"), manifest(5, 8, known, parts)...), "a changed byte": flipped(manifest(5, 8, known, parts), 30),
		"a short first row": laidJournal([][]byte{ends[:15], known, parts}), "a long first row": laidJournal([][]byte{append(ends, 0), known, parts}),
		"a short second row": manifest(5, 8, known[:len(known)-1], parts), "a byte behind": manifest(5, 8, append(slices.Clone(known), 1), parts),
		"a short third row": manifest(5, 8, known, parts[:31]), "half a segment": manifest(5, 8, known, parts[:24]),
		"kind 0": manifest(5, 8, join(known, entry(0, "c\x001\x00\x01")), parts), "kind 3": manifest(5, 8, join(known, entry(3, "c\x001\x00\x01")), parts),
		"no key": manifest(5, 8, join(known, entry(1, "c\x001\x00")), parts), "a key's labels out of order": manifest(5, 8, join(known, entry(1, keyB+keyA)), parts),
		"a long key": manifest(5, 8, join(known, entry(1, long)), parts), "twice": manifest(5, 8, join(known, entry(1, keyA)), parts),
		"twice, of two kinds": manifest(5, 8, join(known, entry(2, keyA)), parts), "too many bytes of keys": manifest(5, 8, join(known, keys), parts),
		"not below the next": manifest(5, 7, known, parts), "a segment twice": manifest(5, 8, known, join(parts, place(7, 10))),
		"not there": manifest(5, 8, known, join(parts, place(6, 0))), "unknown": manifest(5, 8, entry(1, keyB), parts),
		"of another kind": manifest(5, 8, join(entry(1, keyB), entry(2, keyA)), parts), "a step without cells": manifest(5, 8, known, join(place(7, 10), place(3, 10))),
		"cells of another step": manifest(5, 8, known, join(place(7, 5), place(3, 0))), "cells without a step": manifest(5, 8, known, join(place(7, 0), place(3, 0))),
		"a step below 0": manifest(5, 8, known, join(place(7, 1<<63), place(3, 0))), "a step below 0, without cells": manifest(5, 8, known, join(place(7, 10), place(3, 1<<64-10))),
		"fewer known than there are": manifest(5, 8, nil, parts),
	} {
		damaged(t, what, good.with("manifest", b))
	}
	damaged(t, "too many segments", empty.with("manifest", manifest(5, api.MaxSegs+1, nil, segs)))
	fine(t, "as many as may be", empty.with("manifest", manifest(5, api.MaxSegs+1, nil, segs[:api.MaxSegs*16])))
}

func flipped(b []byte, i int) []byte {
	c := bytes.Clone(b)
	c[i] ^= 0x10
	return c
}

func TestSegmentDamage(t *testing.T) {
	good := base(t).without("log.5")
	old := good["seg.7"]
	for i := range old {
		damaged(t, "a changed byte", good.with("seg.7", flipped(old, i)))
	}
	one := func(step uint64, r ...api.Row) files {
		return files{"manifest": manifest(0, 2, join(entry(1, keyA), entry(2, keyB)), place(1, step)), "seg.1": built(t, r...)}
	}
	fine(t, "a row", one(0, rowOf(keyA, at(1, 1))))
	fine(t, "a row of nothing but spans", one(10, api.Row{Key: keyA, Kind: 1, Run: api.Run{Spans: []api.Span{span(1, 2)}}}))
	fine(t, "no rows", one(10))
	damaged(t, "no rows, and a step below 0", one(1<<63))
	damaged(t, "another kind", one(0, rowOf(keyB, at(1, 1))))
	damaged(t, "an unknown key", one(0, rowOf("c\x001\x00\x01", at(1, 1))))
	a, b := rowOf(keyA, at(1, 1), at(12, 1)), rowOf(keyB, at(1, 1))
	b.Kind = api.KindNarrow
	a.Cells = cellsOf(t, 10, a.Run.Points...)
	damaged(t, "a row without cells", one(10, a, b))
	damaged(t, "cells without a step", one(0, a, b))
	damaged(t, "cells of another step", one(11, a))
	fine(t, "cells", one(10, a))
	for what, cells := range map[string][]api.Cell{
		"no state": {{First: 0, State: []byte{1}}}, "a name of no window": {{First: 1, State: a.Cells[0].State}},
		"points elsewhere": {{First: 0, State: a.Cells[1].State}},
	} {
		a.Cells = cells
		damaged(t, what, one(10, a))
	}
	full := files{"manifest": manifest(0, 3, entry(1, keyA), join(place(1, 0), place(2, 0)))}
	full["seg.1"] = built(t, rowOf(keyA, block(0, api.MaxPoints)...))
	full["seg.2"] = built(t)
	fine(t, "as many points as may be", full)
	damaged(t, "too many points", full.with("seg.2", built(t, rowOf(keyA, at(5, 5)))))
	var spans []api.Span
	for i := range int64(api.MaxSpans + 1) {
		spans = append(spans, span(2*i, 2*i))
	}
	hidden := func(l []api.Span) []byte {
		return built(t, api.Row{Key: keyA, Kind: 1, Run: api.Run{Spans: l}})
	}
	fine(t, "as many spans as may be", full.with("seg.2", hidden(spans[1:])))
	damaged(t, "too many spans", full.with("seg.2", hidden(spans)))
	damaged(t, "too many spans together", full.with("seg.2", hidden(spans[1:])).with("seg.1", hidden(spans[:1])))
}

func TestLogDamage(t *testing.T) {
	with := func(records ...[][]byte) files { return base(t).with("log.5", laidJournal(records...)) }
	a := func(kind int, n int) []byte { return laidWrite(keyA, kind, block(0, n)) }
	first := join([]byte{2}, timed(1), timed(2))
	many := make([][]byte, api.MaxWrites+1)
	for i := range many {
		many[i] = a(1, 0)
	}
	long := keyOf(t, keyed(t, api.MaxKey+1, 0))
	fine(t, "no records", with())
	fine(t, "as many writes as may be", with(slices.Concat([][]byte{{1}}, many[1:])))
	fine(t, "as many points as may be", with([][]byte{{1}, a(1, api.MaxBatch-1), a(1, 1)}))
	for what, rows := range map[string][][]byte{
		"no rows": nil, "an empty row": {nil, a(1, 1)}, "a 0": {{0}, a(1, 1)}, "a 3": {{3}, a(1, 1)}, "a byte behind 1": {{1, 0}, a(1, 1)},
		"no write": {{1}}, "too many writes": slices.Concat([][]byte{{1}}, many), "too many points": {{1}, a(1, api.MaxBatch), a(1, 1)},
		"another kind": {{1}, a(2, 1)}, "kind 0": {{1}, laidWrite("c\x001\x00\x01", 0, nil)}, "kind 3": {{1}, laidWrite("c\x001\x00\x01", 3, nil)},
		"two kinds": {{1}, laidWrite("c\x001\x00\x01", 1, nil), laidWrite("c\x001\x00\x01", 2, nil)}, "no key": {{1}, laidWrite("c\x001", 1, nil)},
		"a long key": {{1}, laidWrite(long, 1, nil)}, "a short write": {{1}, a(1, 2)[:len(a(1, 2))-1]}, "a point less": {{1}, a(1, 2)[:len(a(1, 1))]},
		"a byte behind": {{1}, append(a(1, 1), 0)}, "an empty write": {{1}, nil}, "a point more": {{1}, append(a(1, 1), make([]byte, 16)...)},
		"no numbers": laidDeletion(span(1, 2)), "no row of numbers": {first}, "more rows": {first, num(0, 4), num(1, 4)},
		"half a number": {first, num(0, 3)}, "a number of none": laidDeletion(span(1, 2), 0, 2), "numbers that fall": laidDeletion(span(1, 2), 1, 0),
		"a number twice": laidDeletion(span(1, 2), 1, 1), "a backward span": laidDeletion(span(2, 1), 0), "a short first row": {first[:16], num(0, 4)},
		"a long first row": {append(slices.Clone(first), 0), num(0, 4)}, "a 2 alone": {{2}, num(0, 4)},
	} {
		damaged(t, what, with(rows))
		damaged(t, what+", behind another one", with([][]byte{{1}, a(1, 1)}, rows))
	}
	damaged(t, "a changed byte", base(t).with("log.5", flipped(base(t)["log.5"], 20)))
	damaged(t, "no journal's head", base(t).with("log.5", []byte("FATHOMJ2")))
	fine(t, "of a new series", with([][]byte{{1}, laidWrite("c\x001\x00\x01", 2, nil)}, laidDeletion(span(1, 1), 0, 2)))
	damaged(t, "ahead of its first write", with(laidDeletion(span(1, 1), 0, 2), [][]byte{{1}, laidWrite("c\x001\x00\x01", 2, nil)}))
}

// TestLogLimits: more than the limits let lie in a store.
func TestLogLimits(t *testing.T) {
	var records [][][]byte
	for i := 0; i < api.MaxPoints; i += api.MaxBatch {
		records = append(records, [][]byte{{1}, laidWrite(keyA, 1, block(i, api.MaxBatch))})
	}
	fine(t, "as many points as may be", files{"log.0": laidJournal(records...)})
	more := append(records, [][]byte{{1}, laidWrite(keyA, 1, block(api.MaxPoints, 1))})
	damaged(t, "a point more", files{"log.0": laidJournal(more...)})
	damaged(t, "points of head and segments", base(t).with("log.5", laidJournal(records...)))

	records = [][][]byte{{{1}, laidWrite(keyA, 1, nil)}}
	for i := range int64(api.MaxSpans) {
		records = append(records, laidDeletion(span(2*i, 2*i), 0))
	}
	fine(t, "as many spans as may be", files{"log.0": laidJournal(records...)})
	damaged(t, "a span more", files{"log.0": laidJournal(append(records, laidDeletion(span(-9, -9), 0))...)})

	records = nil
	for i := 0; i <= api.MaxSeries; i++ {
		records = append(records, [][]byte{{1}, laidWrite(keyOf(t, set("n", fmt.Sprint(i))), 1, nil)})
	}
	fine(t, "as many series as may be", files{"log.0": laidJournal(records[1:]...)})
	damaged(t, "a series more", files{"log.0": laidJournal(records...)})

	records = nil
	for i := range api.MaxKeys/api.MaxKey + 1 {
		records = append(records, [][]byte{{1}, laidWrite(keyOf(t, keyed(t, api.MaxKey, i)), 1, nil)})
	}
	fine(t, "as long keys as may be", files{"log.0": laidJournal(records[1:]...)})
	damaged(t, "longer keys", files{"log.0": laidJournal(records...)})

	// Some thirty of them, and one behind: so the file has as many as may be, or one point more.
	full := [][]byte{{1}, laidWrite(keyA, 1, block(0, api.MaxBatch))}
	rest := api.MaxLog - 31*(len(laidJournal(full))-8) - 8
	last := (rest - (len(laidJournal([][]byte{{1}, laidWrite(keyA, 1, nil)})) - 8)) / 16
	records = slices.Repeat([][][]byte{full}, 31)
	good := laidJournal(append(records, [][]byte{{1}, laidWrite(keyA, 1, block(0, last))})...)
	bad := laidJournal(append(records, [][]byte{{1}, laidWrite(keyA, 1, block(0, last+1))})...)
	is(t, "about as long as may be", len(good) <= api.MaxLog && len(bad) > api.MaxLog, true)
	fine(t, "as long as may be", files{"log.0": good})
	damaged(t, "longer", files{"log.0": bad})
}

// TestLeft: what was broken off is removed, in order, and nothing else is touched.
func TestLeft(t *testing.T) {
	l := base(t)
	left := []string{"log.0", "log.18446744073709551615", "log.50", "log.6", "manifest.new", "seg.0", "seg.18446744073709551615", "seg.33", "seg.8"}
	other := []string{"log.05", "log.", "log.5x", "log.18446744073709551616", "seg.03", "seg.00", "seg.-3", "seg.", "seg", "log", "manifest.old", "seg.3.7", "segs.8", "a", "manifest.new2"}
	for _, name := range slices.Concat(left, other) {
		l[name] = []byte(name)
	}
	for n := 0; n <= len(left); n++ {
		d := loaded(t, l.list())
		d.Arm(n+1, 0, 0)
		s, e := store.Open(d, config(4, 10, 0))
		want := api.ErrStoreOff
		if n == len(left) {
			want = api.OK
		}
		is(t, "Open", e, want)
		is(t, "Open", s != nil, want == api.OK)
		is(t, "writes", d.Writes(), min(n+1, len(left)))
		gone := left[:n]
		var stay []string
		for _, f := range loaded(t, l.list()).Files() {
			if !slices.Contains(gone, f.Name) {
				stay = append(stay, f.Name)
			}
		}
		same(t, "files", names(d.Files()), stay)
		d.On()
		s = open(t, d, config(4, 10, 0))
		is(t, "Head", s.Head(), 1)
		is(t, "files", len(d.Files()), 4+len(other))
	}
}

// TestTorn: what a torn write has left at the end of the journal, or of the manifest, is cut off.
func TestTorn(t *testing.T) {
	good := base(t)
	for _, name := range []string{"log.5", "manifest"} {
		for _, tail := range [][]byte{{0}, {0, 0, 0, 9, 1, 2, 3, 4, 5}, {0, 0, 1}} {
			d := loaded(t, good.with(name, append(bytes.Clone(good[name]), tail...)).list())
			s := open(t, d, config(4, 10, 0))
			is(t, "Head", s.Head(), 1)
			b, _ := d.Read(name)
			is(t, name, string(b), string(good[name]))
		}
	}
}

// TestFiles: a disk that is full of other files refuses; the store ends, and the error is told.
func TestOtherFiles(t *testing.T) {
	var l []api.File
	for i := range api.MaxFiles {
		l = append(l, api.File{Name: fmt.Sprintf("other.%d", i)})
	}
	s, e := store.Open(loaded(t, l), config(4, 10, 0))
	is(t, "Open", s == nil, true)
	is(t, "Open", e, api.ErrStoreOff)
	p := &pair{d: loaded(t, l[2:]), m: newModel(config(4, 10, 0))}
	p.reopen(t)
	p.write(t, wide(set("a", "1"), at(1, 1)))
	is(t, "Flush", p.s.Flush(), api.ErrStoreOff)
	is(t, "Err", p.s.Err(), api.ErrDiskFull)
	p.m.tells(t, p.s)
	is(t, "Write", p.s.Write([]api.Write{wide(set("a", "1"), at(2, 2))}), api.ErrStoreOff)
	p.reopen(t)
	p.m.tells(t, p.s)
	is(t, "Err", p.s.Err(), api.OK)
	full, _ := disk.Load([]api.File{{Name: "x", Bytes: make([]byte, api.StoreRoom)}}, api.StoreRoom)
	_, e = store.Open(full, config(4, 10, 0))
	is(t, "Open without room", e, api.ErrStoreOff)
}

// TestLastNumbers: epochs and segments' numbers don't wrap: behind the last ones nothing is flushed, nothing compacted.
func TestLastNumbers(t *testing.T) {
	const last = 1<<64 - 1
	for _, b := range [][]byte{manifest(last, 8, entry(1, keyA), place(3, 0)), manifest(5, last, entry(1, keyA), place(3, 0))} {
		s := fine(t, "the last", files{"manifest": b, "seg.3": built(t, rowOf(keyA, at(2, 9)))})
		write(t, s, wide(set("a", "1"), block(10, 20)...))
		is(t, "not flushed", s.Head(), 20)
		is(t, "Flush", s.Flush(), api.ErrStoreFull)
		is(t, "Err", s.Err(), api.OK)
	}
	s := fine(t, "the last", files{"manifest": manifest(5, last, entry(1, keyA), place(3, 0)), "seg.3": built(t, rowOf(keyA, at(2, 9)))})
	is(t, "Compact", s.Compact(0, 1), api.ErrStoreFull)
	is(t, "Compact", s.Compact(0, 2), api.ErrStoreNone)
	l, _ := s.Select(nil, all())
	is(t, "Select", len(l), 1)
}
