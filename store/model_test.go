package store_test

import (
	"bytes"
	"cmp"
	"encoding/binary"
	"fmt"
	"maps"
	"math"
	"slices"
	"strings"
	"testing"

	"fathom/api"
	"fathom/disk"
	"fathom/float"
	"fathom/journal"
	"fathom/label"
	"fathom/roll"
	"fathom/segment"
	"fathom/store"
)

const (
	least    = math.MinInt64
	greatest = math.MaxInt64
)

var _ api.Source = (*store.Store)(nil)

func f(x float64) uint64 { return math.Float64bits(x) }

func at(t int64, x float64) api.Point { return api.Point{T: t, V: f(x)} }

func span(from, last int64) api.Span { return api.Span{From: from, Last: last} }

func all() api.Span { return span(least, greatest) }

// set tells labels of names and values, one behind the other.
func set(l ...string) []api.Label {
	var out []api.Label
	for i := 0; i+1 < len(l); i += 2 {
		out = append(out, api.Label{Name: l[i], Value: l[i+1]})
	}
	return out
}

func equals(name, value string) []api.Matcher {
	return []api.Matcher{{Kind: api.MatchEqual, Name: name, Value: value}}
}

func wide(labels []api.Label, l ...api.Point) api.Write {
	return api.Write{Labels: labels, Kind: api.KindWide, Points: l}
}

func narrow(labels []api.Label, l ...api.Point) api.Write {
	return api.Write{Labels: labels, Kind: api.KindNarrow, Points: l}
}

func is[T comparable](t *testing.T, what string, got, want T) {
	t.Helper()
	if got != want {
		t.Fatalf("%s: %.500s, want %.500s", what, fmt.Sprint(got), fmt.Sprint(want))
	}
}

// same: two things have one text; nil and empty lists have.
func same(t *testing.T, what string, got, want any) {
	t.Helper()
	if a, b := fmt.Sprint(got), fmt.Sprint(want); a != b {
		t.Fatalf("%s: %.500s, want %.500s", what, a, b)
	}
}

func config(block, flush int, step int64) api.Config {
	return api.Config{Block: block, Flush: flush, Step: step}
}

func newDisk(t *testing.T) *disk.Disk {
	t.Helper()
	d, e := disk.New(api.StoreRoom)
	is(t, "disk", e, api.OK)
	return d
}

func loaded(t *testing.T, files []api.File) *disk.Disk {
	t.Helper()
	d, e := disk.Load(files, api.StoreRoom)
	is(t, "disk", e, api.OK)
	return d
}

func open(t *testing.T, d *disk.Disk, c api.Config) *store.Store {
	t.Helper()
	s, e := store.Open(d, c)
	is(t, "Open", e, api.OK)
	return s
}

func write(t *testing.T, s *store.Store, l ...api.Write) {
	t.Helper()
	is(t, "Write", s.Write(l), api.OK)
}

// run is what the model has of a series in one place.
type run struct {
	points map[int64]uint64
	spans  []api.Span
}

func (r *run) sorted() []api.Point {
	var l []api.Point
	for _, t := range slices.Sorted(maps.Keys(r.points)) {
		l = append(l, api.Point{T: t, V: r.points[t]})
	}
	return l
}

func (r *run) hides(t int64) bool {
	return slices.ContainsFunc(r.spans, func(s api.Span) bool { return s.From <= t && t <= s.Last })
}

// join has the spans hold one more.
func (r *run) join(s api.Span) {
	l := append(r.spans, s)
	slices.SortFunc(l, func(a, b api.Span) int { return cmp.Compare(a.From, b.From) })
	r.spans = nil
	for _, x := range l {
		n := len(r.spans)
		if n > 0 && (r.spans[n-1].Last == greatest || x.From <= r.spans[n-1].Last+1) {
			r.spans[n-1].Last = max(r.spans[n-1].Last, x.Last)
			continue
		}
		r.spans = append(r.spans, x)
	}
}

// over has a run lie over an older one.
func (r *run) over(o *run) *run {
	out := &run{points: maps.Clone(r.points), spans: slices.Clone(r.spans)}
	for t, v := range o.points {
		if _, there := r.points[t]; !there && !r.hides(t) {
			out.points[t] = v
		}
	}
	for _, s := range o.spans {
		out.join(s)
	}
	return out
}

type runs map[string]*run

func (l runs) at(key string) *run {
	if l[key] == nil {
		l[key] = &run{points: map[int64]uint64{}}
	}
	return l[key]
}

func (l runs) points() int {
	n := 0
	for _, r := range l {
		n += len(r.points)
	}
	return n
}

func (l runs) spans() int {
	n := 0
	for _, r := range l {
		n += len(r.spans)
	}
	return n
}

// part is a segment of the model.
type part struct {
	number uint64
	step   int64
	rows   runs
	block  int
	kinds  map[string]int
}

func (p part) list(t *testing.T) []api.Row {
	t.Helper()
	var l []api.Row
	for _, key := range slices.Sorted(maps.Keys(p.rows)) {
		r := api.Row{Key: key, Kind: p.kinds[key], Run: api.Run{Points: p.rows[key].sorted(), Spans: p.rows[key].spans}}
		if p.step > 0 {
			cells, e := roll.Cells(api.Window{Step: p.step}, r.Run.Points)
			is(t, "cells", e, api.OK)
			r.Cells = cells
		}
		l = append(l, r)
	}
	return l
}

func (p part) bytes(t *testing.T) []byte {
	t.Helper()
	b, e := segment.Build(p.block, p.list(t))
	is(t, "Build", e, api.OK)
	return b
}

func (p part) told(t *testing.T) api.Segment {
	t.Helper()
	x := api.Segment{Number: p.number, Series: len(p.rows), Points: p.rows.points(), Spans: p.rows.spans(), Step: p.step}
	for _, r := range p.list(t) {
		x.Cells += len(r.Cells)
	}
	return x
}

// model is a store as the chapter says it: what is known, what lies where, and the files' bytes.
type model struct {
	config  api.Config
	keys    []string
	kinds   map[string]int
	epoch   uint64
	next    uint64
	parts   []part
	head    runs
	records [][][]byte
	laid    []byte // the manifest's file; none, if there is no such file
}

func newModel(c api.Config) *model {
	return &model{config: c, kinds: map[string]int{}, next: 1, head: runs{}}
}

func keyOf(t *testing.T, l []api.Label) string {
	t.Helper()
	x, e := label.Set(l)
	is(t, "Set", e, api.OK)
	key, e := label.Key(x)
	is(t, "Key", e, api.OK)
	return string(key)
}

func labelsOf(t *testing.T, key string) []api.Label {
	t.Helper()
	l, e := label.OfKey([]byte(key))
	is(t, "OfKey", e, api.OK)
	return l
}

func num(n uint64, size int) []byte { return binary.BigEndian.AppendUint64(nil, n)[8-size:] }

func timed(t int64) []byte { return num(uint64(t)^1<<63, 8) }

func join(l ...[]byte) []byte { return bytes.Join(l, nil) }

// laidWrite tells a write as a row of a batch's record.
func laidWrite(key string, kind int, l []api.Point) []byte {
	b := join(num(uint64(kind), 1), num(uint64(len(key)), 2), []byte(key), num(uint64(len(l)), 4))
	for _, p := range l {
		b = append(append(b, timed(p.T)...), num(p.V, 8)...)
	}
	return b
}

func laidDeletion(s api.Span, numbers ...int) [][]byte {
	var l []byte
	for _, n := range numbers {
		l = append(l, num(uint64(n), 4)...)
	}
	return [][]byte{join([]byte{2}, timed(s.From), timed(s.Last)), l}
}

// laidJournal tells a journal's file.
func laidJournal(records ...[][]byte) []byte {
	b := []byte("FATHOMJ1")
	for _, rows := range records {
		var body []byte
		for _, r := range rows {
			body = append(append(body, num(uint64(len(r)), 4)...), r...)
		}
		size := num(uint64(len(body)), 4)
		b = append(b, join(size, num(uint64(journal.Sum(join(size, body))), 4), body)...)
	}
	return b
}

func (m *model) manifest() [][]byte {
	var known, parts []byte
	for _, key := range m.keys {
		known = append(known, join(num(uint64(m.kinds[key]), 1), num(uint64(len(key)), 2), []byte(key))...)
	}
	for _, p := range m.parts {
		parts = join(parts, num(p.number, 8), num(uint64(p.step), 8))
	}
	return [][]byte{join(num(m.epoch, 8), num(m.next, 8)), known, parts}
}

func (m *model) files(t *testing.T) []api.File {
	t.Helper()
	l := []api.File{{Name: fmt.Sprintf("log.%d", m.epoch), Bytes: laidJournal(m.records...)}}
	if m.laid != nil {
		l = append(l, api.File{Name: "manifest", Bytes: m.laid})
	}
	for _, p := range m.parts {
		l = append(l, api.File{Name: fmt.Sprintf("seg.%d", p.number), Bytes: p.bytes(t)})
	}
	slices.SortFunc(l, func(a, b api.File) int { return strings.Compare(a.Name, b.Name) })
	return l
}

// write does a batch that may be; it tells whether it is to be flushed.
func (m *model) write(t *testing.T, l []api.Write) (flush bool) {
	t.Helper()
	if len(l) == 0 {
		return false
	}
	rows := [][]byte{{1}}
	for _, w := range l {
		key := keyOf(t, w.Labels)
		rows = append(rows, laidWrite(key, w.Kind, w.Points))
		if m.kinds[key] == 0 {
			m.keys = append(m.keys, key)
			m.kinds[key] = w.Kind
		}
		for _, p := range w.Points {
			if w.Kind == api.KindNarrow {
				p.V = float.Widen(float.Narrow(p.V))
			}
			m.head.at(key).points[p.T] = p.V
		}
	}
	m.records = append(m.records, rows)
	return (m.head.points() >= m.config.Flush || len(laidJournal(m.records...)) >= api.MaxLog/2) && len(m.parts) < api.MaxSegs
}

// delete tells how many series there were.
func (m *model) delete(t *testing.T, match []api.Matcher, s api.Span) int {
	t.Helper()
	var numbers []int
	for i, key := range m.keys {
		if label.MatchAll(match, labelsOf(t, key)) {
			numbers = append(numbers, i)
			r := m.head.at(key)
			maps.DeleteFunc(r.points, func(t int64, _ uint64) bool { return s.From <= t && t <= s.Last })
			r.join(s)
		}
	}
	if len(numbers) > 0 {
		m.records = append(m.records, laidDeletion(s, numbers...))
	}
	return len(numbers)
}

func (m *model) part(rows runs) part {
	p := part{number: m.next, rows: rows, block: m.config.Block, kinds: m.kinds}
	m.next++
	return p
}

func (m *model) flush() {
	maps.DeleteFunc(m.head, func(_ string, r *run) bool { return len(r.points)+len(r.spans) == 0 })
	if len(m.head) == 0 {
		return
	}
	m.parts = append(slices.Clone(m.parts), m.part(m.head))
	m.epoch++
	m.head, m.records = runs{}, nil
	m.laid = laidJournal(m.manifest())
}

func (m *model) compact(t *testing.T, from, to int) {
	t.Helper()
	rows := runs{}
	for _, p := range slices.Backward(m.parts[from:to]) {
		for key, r := range p.rows {
			rows[key] = rows.at(key).over(r)
		}
	}
	for key, r := range rows {
		if from == 0 {
			r.spans = nil
		}
		if len(r.points)+len(r.spans) == 0 {
			delete(rows, key)
		}
	}
	var made []part
	if len(rows) > 0 {
		p := m.part(rows)
		if from == 0 && m.config.Step > 0 && m.windows(t, rows) <= api.MaxKept {
			p.step = m.config.Step
		}
		made = append(made, p)
	}
	m.parts = slices.Concat(m.parts[:from], made, m.parts[to:])
	m.laid = laidJournal(m.manifest())
}

func (m *model) windows(t *testing.T, rows runs) int {
	t.Helper()
	n := 0
	for _, r := range rows {
		names := map[int64]int{}
		for at := range r.points {
			name, e := roll.First(api.Window{Step: m.config.Step}, at)
			is(t, "First", e, api.OK)
			names[name]++
		}
		n += len(names)
	}
	return n
}

// standing tells what stands of a series: its runs together.
func (m *model) standing(key string) *run {
	r := (&run{points: map[int64]uint64{}}).over(m.head.at(key))
	for _, p := range slices.Backward(m.parts) {
		if p.rows[key] != nil {
			r = r.over(p.rows[key])
		}
	}
	return r
}

func (m *model) selected(t *testing.T, match []api.Matcher, s api.Span) []api.Series {
	t.Helper()
	var l []api.Series
	for _, key := range slices.Sorted(slices.Values(m.keys)) {
		x := api.Series{Labels: labelsOf(t, key), Kind: m.kinds[key]}
		for _, p := range m.standing(key).sorted() {
			if s.From <= p.T && p.T <= s.Last {
				x.Points = append(x.Points, p)
			}
		}
		if len(x.Points) > 0 && label.MatchAll(match, x.Labels) {
			l = append(l, x)
		}
	}
	return l
}

func (m *model) known(t *testing.T) []api.Series {
	t.Helper()
	var l []api.Series
	for _, key := range m.keys {
		l = append(l, api.Series{Labels: labelsOf(t, key), Kind: m.kinds[key]})
	}
	return l
}

// copied tells a model that goes on by itself.
func (m *model) copied() *model {
	c := *m
	c.keys, c.kinds = slices.Clone(m.keys), maps.Clone(m.kinds)
	c.parts, c.records = slices.Clone(m.parts), slices.Clone(m.records)
	c.head = runs{}
	for key, r := range m.head {
		c.head[key] = &run{points: maps.Clone(r.points), spans: slices.Clone(r.spans)}
	}
	return &c
}

// tells fails unless a store tells what the model does.
func (m *model) tells(t *testing.T, s *store.Store) {
	t.Helper()
	same(t, "Known", s.Known(), m.known(t))
	var parts []api.Segment
	for _, p := range m.parts {
		parts = append(parts, p.told(t))
	}
	same(t, "Segments", s.Segments(), parts)
	is(t, "Head", s.Head(), m.head.points())
	l, e := s.Select(nil, all())
	is(t, "Select", e, api.OK)
	same(t, "Select", l, m.selected(t, nil, all()))
}

func matches(t *testing.T, match []api.Matcher, key string) bool {
	t.Helper()
	return label.MatchAll(match, labelsOf(t, key))
}
