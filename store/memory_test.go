package store_test

import (
	"bytes"
	"slices"
	"sync"
	"testing"

	"fathom/api"
	"fathom/store"
)

// scribble writes over all that was told, spare room too.
func scribble(l []api.Series) {
	for i := range l {
		clear(l[i].Labels[:cap(l[i].Labels)])
		clear(l[i].Points[:cap(l[i].Points)])
	}
	clear(l[:cap(l)])
}

// TestHandedIn: what is handed in is neither changed nor kept.
func TestHandedIn(t *testing.T) {
	for _, kind := range []int{api.KindWide, api.KindNarrow} {
		p := newPair(t, config(2, 100, 10))
		labels := append(set("b", "1", "e", "", "a", "1"), api.Label{Name: "spare", Value: "x"})[:3]
		l := []api.Write{{Labels: labels, Kind: kind, Points: append([]api.Point{at(5, 0.1), at(3, 2), at(5, 3)}, at(99, 9))[:3]}}
		p.write(t, l...)
		same(t, "Labels", l[0].Labels[:4], append(set("b", "1", "e", "", "a", "1"), api.Label{Name: "spare", Value: "x"}))
		same(t, "Points", l[0].Points[:4], []api.Point{at(5, 0.1), at(3, 2), at(5, 3), at(99, 9)})
		clear(l[0].Labels[:4])
		clear(l[0].Points[:4])
		p.tells(t)
		match := []api.Matcher{{Kind: api.MatchOneOf, Name: "a", Words: []string{"1", "2"}}}
		p.delete(t, match, span(3, 3))
		same(t, "match", match, []api.Matcher{{Kind: api.MatchOneOf, Name: "a", Words: []string{"1", "2"}}})
		clear(match)
		p.flush(t)
		p.tells(t)
	}
}

// TestTold: what is told is the caller's own.
func TestTold(t *testing.T) {
	p := compacted(t)
	p.write(t, wide(set("z", "1"), at(1, 1), at(2, 2)))
	p.tells(t)
	l, _ := p.s.Select(nil, all())
	scribble(l)
	scribble(p.s.Known())
	clear(p.s.Segments())
	clear(p.s.Names())
	clear(p.s.Values("a"))
	p.tells(t)
	same(t, "Names", p.s.Names(), []string{"a", "b", "c", "z"})
	same(t, "Values", p.s.Values("a"), []string{"1"})
	p.delete(t, equals("z", "1"), all())
	p.flush(t)
	p.compact(t, 0, 2)
	w := api.Window{Step: 10}
	ahead, _, _ := p.s.Cells(nil, w, all())
	behind, _, _ := p.s.Cells(nil, w, all())
	for i := range ahead {
		clear(ahead[i].Labels)
		for j := range ahead[i].Cells {
			state := ahead[i].Cells[j].State
			clear(state[:cap(state)])
			for k := j + 1; k < len(ahead[i].Cells); k++ {
				is(t, "its own", bytes.Equal(ahead[i].Cells[k].State, behind[i].Cells[k].State), true)
			}
		}
		clear(ahead[i].Cells)
	}
	again, _, _ := p.s.Cells(nil, w, all())
	same(t, "Cells", again, behind)
	p.tells(t)
}

// TestApart: two stores have nothing in common.
func TestApart(t *testing.T) {
	p, q := compacted(t), compacted(t)
	p.write(t, wide(set("q", "1"), at(7, 7)))
	p.flush(t)
	q.tells(t)
	n := p.s.Reads()
	q.s.Select(nil, all())
	is(t, "Reads", p.s.Reads(), n)
}

// TestMany: calls of several goroutines are done one at a time.
func TestMany(t *testing.T) {
	d := newDisk(t)
	s := open(t, d, config(3, 40, 10))
	var wait sync.WaitGroup
	for i := range 6 {
		wait.Add(1)
		go func() {
			defer wait.Done()
			labels := set("g", string(rune('a'+i)))
			for k := range 60 {
				both := []api.Write{wide(labels, at(int64(k), float64(k))), wide(set("all", "x"), at(int64(i*100+k), 1))}
				if e := s.Write(both); e != api.OK {
					t.Error(e)
				}
				busy(t, s, k)
			}
			if n, e := s.Delete(equals("g", string(rune('a'+i))), span(0, 9)); n != 1 || e != api.OK {
				t.Error(n, e)
			}
		}()
	}
	wait.Wait()
	for _, x := range []*store.Store{s, open(t, d, config(3, 40, 10))} {
		l, _ := x.Select(nil, all())
		is(t, "series", len(l), 7)
		is(t, "of all", len(l[0].Points), 360)
		for _, one := range l[1:] {
			is(t, "of one", len(one.Points), 50)
		}
	}
}

// busy asks all that may be asked; of what is seen a batch is whole or not there.
func busy(t *testing.T, s *store.Store, k int) {
	l, _ := s.Select(nil, all())
	n := 0
	for _, x := range l {
		if x.Labels[0].Name == "g" {
			n += len(x.Points)
		}
	}
	if i := slices.IndexFunc(l, func(x api.Series) bool { return x.Labels[0].Name == "all" }); k < 50 && i >= 0 && n != len(l[i].Points) && !anyDeleted(l) {
		t.Errorf("%d, %d: half a batch", n, len(l[i].Points))
	}
	if n := len(s.Segments()); n > 4 && k%7 == 0 {
		s.Compact(0, 2) // another one may have done so: then there are fewer
	}
	if k%9 == 0 {
		s.Flush()
	}
	s.Cells(nil, api.Window{Step: 10}, all())
	s.Known()
	s.Head()
	s.Names()
	s.Values("g")
	s.Reads()
	s.Err()
}

// anyDeleted tells whether a goroutine has deleted what it wrote.
func anyDeleted(l []api.Series) bool {
	return slices.ContainsFunc(l, func(x api.Series) bool { return x.Labels[0].Name == "g" && x.Points[0].T > 0 })
}
