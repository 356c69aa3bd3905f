package store_test

import (
	"fmt"
	"math/rand"
	"testing"

	"fathom/api"
	"fathom/disk"
	"fathom/store"
)

// call is one of a store's; states tells, of what was ahead of it, what it leaves: of a Write that is flushed first what was written, then that flushed.
type call struct {
	name   string
	do     func(s *store.Store) api.Errno
	states func(t *testing.T, m *model) []*model
}

// one tells the state behind a call that has no step between.
func one(as func(t *testing.T, m *model)) func(t *testing.T, m *model) []*model {
	return func(t *testing.T, m *model) []*model {
		m = m.copied()
		as(t, m)
		return []*model{m}
	}
}

func writes(l ...api.Write) call {
	return call{"Write", func(s *store.Store) api.Errno { return s.Write(l) }, func(t *testing.T, m *model) []*model {
		m = m.copied()
		if !m.write(t, l) {
			return []*model{m}
		}
		return append([]*model{m}, flushes().states(t, m)...)
	}}
}

func deletes(match []api.Matcher, s api.Span) call {
	return call{"Delete", func(x *store.Store) api.Errno { _, e := x.Delete(match, s); return e }, one(func(t *testing.T, m *model) { m.delete(t, match, s) })}
}

func keeps(from int64) call {
	return call{"Keep", func(s *store.Store) api.Errno { return s.Keep(from) }, one(func(t *testing.T, m *model) { m.delete(t, nil, span(least, from-1)) })}
}

func flushes() call {
	return call{"Flush", (*store.Store).Flush, one(func(t *testing.T, m *model) { m.flush() })}
}

func compacts(from, to int) call {
	return call{"Compact", func(s *store.Store) api.Errno { return s.Compact(from, to) }, one(func(t *testing.T, m *model) { m.compact(t, from, to) })}
}

// script is calls of all sorts, one behind the other; some writes have the head flushed.
func script() []call {
	a, b := set("a", "1"), set("b", "1")
	return []call{
		writes(wide(a, at(5, 1), at(3, 2))),
		writes(narrow(b, at(1, 0.1)), wide(a)),
		deletes(equals("a", "1"), span(4, 9)),
		flushes(),
		writes(wide(a, at(6, 6)), narrow(b, at(6, 6))),
		keeps(2),
		writes(wide(set("c", "1"), at(1, 1), at(2, 2), at(13, 3), at(14, 4))),
		deletes(nil, span(13, 13)),
		flushes(),
		compacts(1, 3),
		writes(wide(set("d", "1"))),
		compacts(0, 2),
		deletes(nil, all()),
		writes(narrow(set("e", "1"), at(1, 1))),
		flushes(),
		compacts(0, 1),
		writes(wide(a, at(1, 1)), wide(a, at(1, 2)), wide(a, at(2, 2), at(3, 3), at(4, 4), at(5, 5))),
		compacts(0, 2),
		deletes(nil, all()),
		flushes(),
		compacts(0, 2),
	}
}

func powerConfig() api.Config { return config(2, 5, 10) }

// text tells what a store tells, of any sort, as one text.
func text(t *testing.T, s *store.Store) string {
	t.Helper()
	l, e := s.Select(nil, all())
	is(t, "Select", e, api.OK)
	return fmt.Sprint(s.Known(), l, s.Segments(), s.Head())
}

func (m *model) text(t *testing.T) string {
	t.Helper()
	var parts []api.Segment
	for _, p := range m.parts {
		parts = append(parts, p.told(t))
	}
	return fmt.Sprint(m.known(t), m.selected(t, nil, all()), parts, m.head.points())
}

// whichever tells which of some models a store and its disk are like.
func whichever(t *testing.T, d *disk.Disk, s *store.Store, l []*model) *model {
	t.Helper()
	told := text(t, s) + fmt.Sprint(d.Files())
	for _, m := range l {
		if m.text(t)+fmt.Sprint(m.files(t)) == told {
			return m
		}
	}
	t.Fatalf("neither as ahead nor as behind: %s", told)
	return nil
}

// TestPower (T4): whatever write of whatever call the power goes at, whatever is kept and lost.
func TestPower(t *testing.T) {
	before := newModel(powerConfig())
	for _, c := range script() {
		behind := c.states(t, before)
		for i := range writesOf(t, before, c) {
			for _, keep := range []int{-1, 0, 1, 9, 30, 1 << 20} {
				for _, lose := range []int{0, 1, 20, 1 << 20} {
					goesOff(t, c, before, behind, i+1, keep, lose)
				}
			}
		}
		before = behind[len(behind)-1]
	}
}

// writesOf tells how many writes a call has.
func writesOf(t *testing.T, m *model, c call) int {
	t.Helper()
	d := loaded(t, m.files(t))
	s := open(t, d, powerConfig())
	ahead := d.Writes()
	is(t, c.name, c.do(s), api.OK)
	return d.Writes() - ahead
}

// goesOff has the power go at a call's i-th write.
func goesOff(t *testing.T, c call, before *model, behind []*model, i, keep, lose int) {
	t.Helper()
	d := loaded(t, before.files(t))
	s := open(t, d, powerConfig())
	d.Arm(i, keep, lose)
	is(t, c.name, c.do(s), api.ErrStoreOff)
	is(t, "Err", s.Err(), api.ErrDiskOff)
	may := append([]*model{before}, behind...)
	if c.name == "Write" && i > 2 { // its record is sure: it's the flush that was broken off
		behind[0].tells(t, s)
		may = behind
	} else {
		before.tells(t, s)
	}
	told := text(t, s)
	isOff(t, s)
	d.On()
	isOff(t, s)
	is(t, "as ahead", text(t, s), told)
	s = open(t, d, powerConfig())
	is(t, "Err", s.Err(), api.OK)
	whichever(t, d, s, may)
	is(t, "it goes on", s.Write([]api.Write{wide(set("x", "1"), at(9, 9))}), api.OK)
}

// isOff: a store that has met an error of its disk changes nothing any more, and says so ahead of all else.
func isOff(t *testing.T, s *store.Store) {
	t.Helper()
	for _, l := range [][]api.Write{nil, many(1), many(api.MaxWrites + 1), {wide(set("1", "1"))}} {
		is(t, "Write", s.Write(l), api.ErrStoreOff)
	}
	n, e := s.Delete([]api.Matcher{{}}, span(2, 1))
	is(t, "Delete", e, api.ErrStoreOff)
	is(t, "Delete", n, 0)
	for _, from := range []int64{5, least} {
		is(t, "Keep", s.Keep(from), api.ErrStoreOff)
	}
	is(t, "Flush", s.Flush(), api.ErrStoreOff)
	is(t, "Compact", s.Compact(0, 0), api.ErrStoreOff)
	is(t, "Err", s.Err(), api.ErrDiskOff)
}

// TestPowerAtOpen: a store whose power goes while it is opened is opened again.
func TestPowerAtOpen(t *testing.T) {
	m := newModel(powerConfig())
	for _, c := range script()[:8] {
		l := c.states(t, m)
		m = l[len(l)-1]
	}
	l := m.files(t)
	for i, f := range l {
		if f.Name == "manifest" || f.Name == fmt.Sprintf("log.%d", m.epoch) {
			l[i].Bytes = append(f.Bytes, 1, 2, 3)
		}
	}
	l = append(l, api.File{Name: "log.0", Bytes: []byte("x")}, api.File{Name: "seg.9"}, api.File{Name: "manifest.new"})
	for n := 1; ; n++ {
		for _, keep := range []int{0, 1, 1 << 20} {
			d := loaded(t, l)
			d.Arm(n, keep, keep)
			s, e := store.Open(d, powerConfig())
			if e == api.OK {
				is(t, "writes", n, 6)
				m.tells(t, s)
				return
			}
			is(t, "Open", e, api.ErrStoreOff)
			is(t, "Open", s == nil, true)
			_, e = store.Open(d, powerConfig())
			is(t, "Open without power", e, api.ErrStoreOff)
			d.On()
			m.tells(t, open(t, d, powerConfig()))
			same(t, "files", d.Files(), m.files(t))
		}
	}
}

// TestPowerEver: any calls, with the power going anywhere, again and again, on one disk.
func TestPowerEver(t *testing.T) {
	for seed := range int64(40) {
		r := rand.New(rand.NewSource(170 + seed))
		p := newPair(t, powerConfig())
		for range 60 {
			c := someCall(r, len(p.m.parts))
			behind := c.states(t, p.m)
			if r.Intn(3) == 0 {
				p.d.Arm(1+r.Intn(12), r.Intn(60), r.Intn(60))
			}
			e := c.do(p.s)
			p.d.Arm(0, 0, 0)
			if e == api.OK {
				p.m = behind[len(behind)-1]
			} else {
				is(t, c.name, e, api.ErrStoreOff)
				p.d.On()
				p.reopen(t)
				p.m = whichever(t, p.d, p.s, append([]*model{p.m}, behind...))
			}
			p.tells(t)
		}
	}
}

func someCall(r *rand.Rand, n int) call {
	switch r.Intn(7) {
	case 0:
		return deletes(someMatch(r), someSpan(r))
	case 1:
		return flushes()
	case 2:
		if n > 0 {
			from := r.Intn(n)
			return compacts(from, from+1+r.Intn(n-from))
		}
	case 3:
		if n > 0 {
			return compacts(0, n)
		}
	}
	return writes(someWrites(r)...)
}

// order has the power go behind each write of a call, and tells the disk's names then.
func order(t *testing.T, before *model, c call) []string {
	t.Helper()
	var l []string
	for i := range writesOf(t, before, c) {
		d := loaded(t, before.files(t))
		s := open(t, d, powerConfig())
		d.Arm(i+1, 1<<20, 0)
		is(t, c.name, c.do(s), api.ErrStoreOff)
		l = append(l, fmt.Sprint(names(d.Files())))
	}
	return l
}

// TestOrder: in which order files come and go.
func TestOrder(t *testing.T) {
	m := newModel(powerConfig())
	for _, c := range []call{writes(wide(set("a", "1"), at(1, 1))), flushes(), writes(wide(set("a", "1"), at(2, 2)))} {
		m = c.states(t, m)[0]
	}
	same(t, "Flush", order(t, m, flushes()), []string{
		"[log.1 manifest seg.1 seg.2]", "[log.1 manifest seg.1 seg.2]", // laid, and made sure
		"[log.1 manifest manifest.new seg.1 seg.2]", "[log.1 manifest manifest.new seg.1 seg.2]", // begun
		"[log.1 manifest manifest.new seg.1 seg.2]", "[log.1 manifest manifest.new seg.1 seg.2]", // its record
		"[log.1 manifest seg.1 seg.2]", "[manifest seg.1 seg.2]", "[log.2 manifest seg.1 seg.2]", "[log.2 manifest seg.1 seg.2]",
	})
	m = flushes().states(t, m)[0]
	same(t, "Compact", order(t, m, compacts(0, 2)), []string{
		"[log.2 manifest seg.1 seg.2 seg.3]", "[log.2 manifest seg.1 seg.2 seg.3]",
		"[log.2 manifest manifest.new seg.1 seg.2 seg.3]", "[log.2 manifest manifest.new seg.1 seg.2 seg.3]",
		"[log.2 manifest manifest.new seg.1 seg.2 seg.3]", "[log.2 manifest manifest.new seg.1 seg.2 seg.3]",
		"[log.2 manifest seg.1 seg.2 seg.3]", "[log.2 manifest seg.2 seg.3]", "[log.2 manifest seg.3]",
	})
	same(t, "Write", len(order(t, m, writes(wide(nil, at(1, 1))))), 2)
	same(t, "Delete", len(order(t, m, deletes(nil, all()))), 2)
	same(t, "Keep", len(order(t, m, keeps(1))), 2)
}
