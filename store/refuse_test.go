package store_test

import (
	"fmt"
	"slices"
	"strconv"
	"strings"
	"testing"

	"fathom/api"
	"fathom/disk"
	"fathom/store"
)

// stays fails if something changes the files, or what is told.
func (p *pair) stays(t *testing.T, what string, got, want api.Errno) {
	t.Helper()
	is(t, what, got, want)
	p.tells(t)
}

func points(n int) []api.Point { return make([]api.Point, n) }

// many tells so many writes without points, each to its own series.
func many(n int) []api.Write {
	var l []api.Write
	for i := range n {
		l = append(l, wide(set("n", strconv.Itoa(i))))
	}
	return l
}

// keyed tells labels whose key has so many bytes, as few labels as may be.
func keyed(t *testing.T, size, mark int) []api.Label {
	t.Helper()
	l := set("id", strconv.Itoa(1000+mark))
	long := strings.Repeat("l", api.MaxName-1)
	for left := size - len(keyOf(t, l)); left > 0; {
		n := min(left, api.MaxName+api.MaxValue+3)
		if left > n && left-n < api.MaxName+4 {
			n -= api.MaxName + 4
		}
		name := long + string(rune('a'+len(l)))
		if n < api.MaxName+4 {
			name = "x"
		}
		l = append(l, api.Label{Name: name, Value: strings.Repeat("v", n-len(name)-3)})
		left -= n
	}
	is(t, "key", len(keyOf(t, l)), size)
	return l
}

func TestConfig(t *testing.T) {
	small, _ := disk.New(api.StoreRoom - 1)
	off := newDisk(t)
	off.Arm(1, 0, 0)
	off.Append("x", nil)
	smallOff, _ := disk.New(1)
	smallOff.Arm(1, 0, 0)
	smallOff.Append("x", nil)
	good := config(1, 1, 0)
	for _, c := range []struct {
		d    *disk.Disk
		c    api.Config
		want api.Errno
	}{
		{newDisk(t), config(0, 1, 0), api.ErrStoreConfig}, {newDisk(t), config(api.MaxBlock+1, 1, 0), api.ErrStoreConfig},
		{newDisk(t), config(-1, 1, 0), api.ErrStoreConfig}, {newDisk(t), config(1, 0, 0), api.ErrStoreConfig},
		{newDisk(t), config(1, api.MaxPoints+1, 0), api.ErrStoreConfig}, {newDisk(t), config(1, 1, -1), api.ErrStoreConfig},
		{off, config(0, 1, 0), api.ErrStoreConfig}, {off, good, api.ErrStoreOff}, {smallOff, good, api.ErrStoreOff},
		{small, good, api.ErrStoreConfig}, {newDisk(t), good, api.OK}, {newDisk(t), config(api.MaxBlock, api.MaxPoints, greatest), api.OK},
	} {
		n := c.d.Writes()
		s, e := store.Open(c.d, c.c)
		is(t, "Open", e, c.want)
		is(t, "Open", s != nil, e == api.OK)
		if e != api.OK {
			is(t, "nothing is written", c.d.Writes(), n)
		}
	}
}

func TestWriteRefused(t *testing.T) {
	p := newPair(t, config(4, api.MaxPoints, 0))
	p.write(t, wide(set("k", "wide"), at(1, 1)), narrow(set("k", "narrow")))
	bad, other := wide(set("a", "1", "a", "1")), narrow(set("k", "wide"))
	long := wide(set("a", "1"), points(api.MaxBatch+1)...)
	for what, c := range map[string]struct {
		l    []api.Write
		want api.Errno
	}{
		"many":               {many(api.MaxWrites + 1), api.ErrStoreLong},
		"many, ahead of all": {append(many(api.MaxWrites), bad), api.ErrStoreLong},
		"long":               {[]api.Write{long}, api.ErrStoreLong},
		"long, ahead of all": {[]api.Write{bad, other, long}, api.ErrStoreLong},
		"long together":      {[]api.Write{wide(set("a", "1"), points(api.MaxBatch)...), wide(set("a", "1"), points(1)...)}, api.ErrStoreLong},
		"a name":             {[]api.Write{wide(set("1", "x"))}, api.ErrStoreLabels},
		"a value":            {[]api.Write{wide(set("a", "\xff"))}, api.ErrStoreLabels},
		"twice":              {[]api.Write{wide(set("a", "", "a", "x"))}, api.ErrStoreLabels},
		"a key":              {[]api.Write{wide(keyed(t, api.MaxKey+1, 0))}, api.ErrStoreLabels},
		"labels first":       {[]api.Write{bad, other}, api.ErrStoreLabels},
		"kind first":         {[]api.Write{other, bad}, api.ErrStoreKind},
		"labels of a write":  {[]api.Write{{Labels: set("a", "1", "a", "1"), Kind: 9}}, api.ErrStoreLabels},
		"kind of none":       {[]api.Write{{Labels: set("a", "1")}}, api.ErrStoreKind},
		"kind 3":             {[]api.Write{{Labels: set("a", "1"), Kind: 3}}, api.ErrStoreKind},
		"kind -1":            {[]api.Write{{Labels: set("a", "1"), Kind: -1}}, api.ErrStoreKind},
		"kind 257":           {[]api.Write{{Labels: set("a", "1"), Kind: 257}}, api.ErrStoreKind},
		"as known":           {[]api.Write{wide(set("k", "narrow"))}, api.ErrStoreKind},
		"as ahead":           {[]api.Write{wide(set("a", "1")), narrow(set("b", "1")), narrow(set("a", "1", "c", ""))}, api.ErrStoreKind},
		"the last alone":     {[]api.Write{wide(set("k", "wide"), at(7, 7)), wide(set("a", "1"), at(8, 8)), bad}, api.ErrStoreLabels},
	} {
		p.stays(t, what, p.s.Write(c.l), c.want)
	}
	n := p.d.Writes()
	p.stays(t, "an empty batch", p.s.Write(nil), api.OK)
	is(t, "an empty batch", p.d.Writes(), n)
	p.write(t, many(api.MaxWrites)...)
	p.write(t, wide(keyed(t, api.MaxKey, 0), at(2, 2)), wide(nil, at(3, 3)), wide(set("a", "", "b", ""), at(4, 4)))
	p.write(t, wide(set("a", "1"), points(api.MaxBatch)...))
	p.tells(t)
	p.reopen(t)
	p.tells(t)
}

// TestMatch: matchers that may not be, then spans that may not be.
func TestMatch(t *testing.T) {
	p := newPair(t, config(4, 100, 10))
	p.write(t, wide(set("a", "1"), at(1, 1)))
	p.flush(t)
	p.compact(t, 0, 1)
	bad := []api.Matcher{{Kind: api.MatchEqual, Name: "a"}, {Kind: 0, Name: "a"}}
	tooMany := slices.Repeat(equals("a", "1"), api.MaxMatch+1)
	for _, c := range []struct {
		match []api.Matcher
		s     api.Span
		want  api.Errno
	}{
		{bad, all(), api.ErrStoreMatch}, {tooMany, all(), api.ErrStoreMatch}, {bad, span(2, 1), api.ErrStoreMatch}, {tooMany, span(2, 1), api.ErrStoreMatch},
		{nil, span(2, 1), api.ErrStoreSpan}, {equals("b", "1"), span(greatest, least), api.ErrStoreSpan},
	} {
		n, e := p.s.Delete(c.match, c.s)
		is(t, "Delete", n, 0)
		p.stays(t, "Delete", e, c.want)
		l, e := p.s.Select(c.match, c.s)
		is(t, "Select", len(l), 0)
		is(t, "Select", e, c.want)
		cells, ok, e := p.s.Cells(c.match, api.Window{Step: 10}, c.s)
		is(t, "Cells", len(cells), 0)
		is(t, "Cells", ok, false)
		is(t, "Cells", e, c.want)
	}
	p.delete(t, slices.Repeat(equals("a", "1"), api.MaxMatch), span(1, 1))
	p.tells(t)
}

// TestNone: a deletion that takes no series writes nothing.
func TestNone(t *testing.T) {
	p := newPair(t, config(4, 100, 0))
	n := p.d.Writes()
	p.delete(t, nil, all())
	is(t, "Keep of nothing", p.s.Keep(5), api.OK)
	p.write(t, wide(set("a", "1")))
	p.delete(t, equals("a", "2"), all())
	is(t, "writes", p.d.Writes(), n+2)
	p.tells(t)
}

func TestKeep(t *testing.T) {
	p := newPair(t, config(4, 100, 0))
	ends := []api.Point{at(least, 1), at(least+1, 2), at(0, 3), at(greatest-1, 4), at(greatest, 5)}
	p.write(t, wide(set("a", "1"), ends...), narrow(set("b", "1"), ends...))
	p.flush(t)
	for _, from := range []int64{least, least + 1, least + 2, 0, 1, greatest} {
		n := p.d.Writes()
		is(t, "Keep", p.s.Keep(from), api.OK)
		if from == least {
			is(t, "Keep of all", p.d.Writes(), n)
		} else {
			p.m.delete(t, nil, span(least, from-1))
		}
		p.tells(t)
	}
	l, _ := p.s.Select(nil, all())
	is(t, "what is kept", l[0].Points[0], at(greatest, 5))
	is(t, "what is kept", len(l[0].Points), 1)
}

func TestCompactRefused(t *testing.T) {
	p := newPair(t, config(4, 1, 0))
	p.stays(t, "none", p.s.Compact(0, 1), api.ErrStoreNone)
	p.stays(t, "none", p.s.Compact(0, 0), api.ErrStoreNone)
	for i := range 3 {
		p.write(t, wide(set("a", "1"), at(int64(i), 1)))
	}
	for _, c := range [][2]int{{0, 0}, {0, 4}, {-1, 2}, {2, 2}, {2, 1}, {3, 4}, {1, greatest}, {least, greatest}} {
		p.stays(t, fmt.Sprint(c), p.s.Compact(c[0], c[1]), api.ErrStoreNone)
	}
}

// TestCompact: spans go where nothing older is, and stay elsewhere; where nothing is left there is no segment.
func TestCompact(t *testing.T) {
	p := newPair(t, config(4, 100, 10))
	a, b := set("a", "1"), set("b", "1")
	p.write(t, wide(a, at(1, 1), at(2, 2)), narrow(b, at(1, 3)))
	p.flush(t)
	p.delete(t, equals("a", "1"), span(2, 9))
	p.write(t, wide(a, at(5, 5)))
	p.flush(t)
	p.delete(t, nil, span(5, 20))
	p.flush(t)
	p.compact(t, 1, 3)
	same(t, "Segments", p.s.Segments()[1], api.Segment{Number: 4, Series: 2, Spans: 2})
	p.tells(t)
	p.compact(t, 1, 2)
	is(t, "of one", p.s.Segments()[1].Number, 5)
	p.compact(t, 0, 2)
	same(t, "Segments", p.s.Segments(), []api.Segment{{Number: 6, Series: 2, Points: 2, Cells: 2, Step: 10}})
	p.tells(t)
	p.delete(t, nil, all())
	p.flush(t)
	p.compact(t, 0, 2)
	is(t, "nothing is left", len(p.s.Segments()), 0)
	same(t, "files", names(p.d.Files()), []string{"log.4", "manifest"})
	p.tells(t)
	p.reopen(t)
	p.tells(t)
	p.write(t, wide(a, at(3, 3)))
	p.flush(t)
	is(t, "the next number", p.s.Segments()[0].Number, 8)
	p.tells(t)
}
