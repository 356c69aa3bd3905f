package index_test

import (
	"fmt"
	"sync"
	"sync/atomic"
	"testing"

	"fathom/api"
	"fathom/index"
)

// together runs a function so many times at once, and waits for all.
func together(n int, f func(i int)) {
	var wait sync.WaitGroup
	for i := range n {
		wait.Add(1)
		go func() {
			defer wait.Done()
			f(i)
		}()
	}
	wait.Wait()
}

// P14.9: of several that lay one number, or one set, just one does; of several that drop it, too.
func TestOneOfSeveral(t *testing.T) {
	x := index.New()
	for round := range 50 {
		var laid, dropped, under atomic.Int64
		together(8, func(i int) {
			if x.Add(uint64(round), list("n", fmt.Sprint(round, i))) == api.OK {
				laid.Add(1)
			}
			if x.Add(uint64(1000+10*round+i), list("round", fmt.Sprint(round))) == api.OK {
				under.Add(1)
			}
		})
		together(8, func(int) {
			if x.Drop(uint64(round)) {
				dropped.Add(1)
			}
		})
		if laid.Load() != 1 || under.Load() != 1 || dropped.Load() != 1 || x.Len() != round+1 {
			t.Errorf("%d, %d laid, %d dropped, %d left", laid.Load(), under.Load(), dropped.Load(), x.Len())
		}
	}
}

// P14.9: nothing is lost that several lay and drop at once.
func TestNothingIsLost(t *testing.T) {
	x := index.New()
	together(8, func(i int) {
		for k := range 60 {
			id := uint64(100*i + k)
			if e := x.Add(id, list("n", fmt.Sprint(id), "who", fmt.Sprint(i))); e != api.OK {
				t.Errorf("Add(%d): %d", id, e)
			}
			if k%3 == 2 && !x.Drop(id-1) {
				t.Errorf("Drop(%d)", id-1)
			}
		}
	})
	if x.Len() != 8*40 || len(x.Values("n")) != 8*40 || len(x.Values("who")) != 8 {
		t.Errorf("%d, %d, %d", x.Len(), len(x.Values("n")), len(x.Values("who")))
	}
	for i := range 8 {
		if l, _ := x.Find(equal("who", fmt.Sprint(i))); len(l) != 40 {
			t.Errorf("%d: %v", i, l)
		}
	}
}

// moves lays a number under a set, and takes it away ahead of the next one: at each moment there is at most one.
func moves(t *testing.T, x *index.Index) {
	for k := range 300 {
		id := uint64(1 + k%2)
		if x.Add(id, list("a", fmt.Sprint(id), "b", "same")) != api.OK || !x.Drop(id) {
			t.Errorf("%d", id)
		}
	}
}

// atMostOne: whoever asks never sees two.
func atMostOne(t *testing.T, x *index.Index) {
	for range 300 {
		if l, _ := x.Find(equal("b", "same")); len(l) > 1 {
			t.Errorf("Find: %v", l)
		}
		if l, _ := x.Find(unlike("a", ""), begins("a", "")); len(l) > 1 {
			t.Errorf("Find: %v", l)
		}
		if l := x.Values("a"); len(l) > 1 {
			t.Errorf("Values: %v", l)
		}
		if l := x.Names(); len(l) != 0 && len(l) != 2 {
			t.Errorf("Names: %v", l)
		}
		if n := x.Len(); n > 1 {
			t.Errorf("Len: %d", n)
		}
		if l, there := x.Labels(1); there != (len(l) == 2) {
			t.Errorf("Labels: %v, %t", l, there)
		}
		if id, there := x.Of(list("a", "2", "b", "same")); there != (id == 2) {
			t.Errorf("Of: %d, %t", id, there)
		}
	}
}

// P14.9: each call is done as if at one moment.
func TestAtOneMoment(t *testing.T) {
	x := index.New()
	together(5, func(i int) {
		if i == 0 {
			moves(t, x)
		} else {
			atMostOne(t, x)
		}
	})
}

// P14.9: a snapshot may be asked, by several, and changed, while the index goes on; it tells one thing all along.
func TestSnapshotsMeanwhile(t *testing.T) {
	x := index.New()
	together(6, func(i int) {
		for k := range 30 {
			if i < 2 {
				x.Add(uint64(100*i+k), list("n", fmt.Sprint(i, k)))
				continue
			}
			s := x.Snapshot()
			n := s.Len()
			together(3, func(int) {
				if l, _ := s.Find(); len(l) != n || len(s.Values("n")) != n || s.Len() != n {
					t.Errorf("%d of %d, %d values", len(l), n, len(s.Values("n")))
				}
			})
			if s.Add(9999, list("s", "x")) != api.OK || s.Len() != n+1 {
				t.Errorf("%d behind an Add, ahead %d", s.Len(), n)
			}
		}
	})
	if _, there := x.Labels(9999); there || x.Len() != 60 {
		t.Errorf("%d", x.Len())
	}
}
