package merge_test

import (
	"errors"
	"fmt"
	"runtime"
	"slices"
	"sync"
	"testing"
	"time"

	"fathom/api"
	"fathom/merge"
)

// ended: no more goroutines are left than there were. (One that has done all may be counted for a moment more.)
func ended(t *testing.T, before int) {
	t.Helper()
	for range 500 {
		if runtime.NumGoroutine() <= before {
			return
		}
		time.Sleep(time.Millisecond)
	}
	t.Fatalf("%d goroutines, %d before", runtime.NumGoroutine(), before)
}

// long tells so many runs of 100 points each, whose times take turns.
func long(runs int) []api.Run {
	l := make([]api.Run, runs)
	for i := range l {
		for k := range 100 {
			l[i].Points = append(l[i].Points, api.Point{T: int64(k*runs + i), V: uint64(i)})
		}
	}
	return l
}

// P16.5: what was asked for may be ranged over again, left early, and ranged over within itself.
func TestSeqAgain(t *testing.T) {
	x := seq(t, []api.Run{newer(), older()}, span(0, 9))
	for range 3 {
		same(t, "again", text(run(slices.Collect(x))), "1:1 5:2 6:6 ")
		n := 0
		for p := range x {
			n++
			if p.T == 5 {
				break
			}
		}
		same(t, "left early", n, 2)
	}
	s := ""
	for p := range x {
		s += text(run([]api.Point{p})) + text(run(slices.Collect(x)))
	}
	same(t, "within itself", s, "1:1 1:1 5:2 6:6 5:2 1:1 5:2 6:6 6:6 1:1 5:2 6:6 ")
	x(nil)
	same(t, "none", len(slices.Collect(seq(t, nil, span(0, 9)))), 0)
	same(t, "of an empty run", len(slices.Collect(seq(t, []api.Run{{}}, all()))), 0)
}

// P16.5: several goroutines may range at once, as nothing changes.
func TestSeqByMany(t *testing.T) {
	x := seq(t, long(5), all())
	want := slices.Collect(x)
	var wait sync.WaitGroup
	for range 8 {
		wait.Go(func() {
			for range 20 {
				if !slices.Equal(slices.Collect(x), want) {
					t.Error("another row")
				}
			}
		})
	}
	wait.Wait()
}

// P16.6: f is called as long as it says true, and that often.
func TestEachStops(t *testing.T) {
	for _, runs := range []int{1, 2, 5, 16, 17, 40} {
		l := long(runs)
		want := merged(t, l...).Points
		before := runtime.NumGoroutine()
		for _, most := range []int{1, 2, 3, 99, 100, len(want) - 1, len(want), len(want) + 1} {
			var got []api.Point
			n, e := merge.Each(l, all(), func(p api.Point) bool {
				got = append(got, p)
				return len(got) != most
			})
			if e != api.OK || n != min(most, len(want)) || !slices.Equal(got, want[:n]) {
				t.Fatalf("%d of %d runs: %d, %d, %v", most, runs, n, e, got)
			}
			ended(t, before)
		}
	}
}

// P16.6: of a nil f none is called, and of no points, too.
func TestEachOfNone(t *testing.T) {
	never := func(p api.Point) bool { t.Errorf("called with %v", p); return true }
	for _, c := range []struct {
		l []api.Run
		s api.Span
		f func(api.Point) bool
	}{
		{nil, all(), never}, {[]api.Run{}, all(), never}, {[]api.Run{{}, {}}, all(), never}, {long(3), span(-9, -1), never},
		{[]api.Run{run(nil, all()), newer()}, all(), never}, {long(3), all(), nil}, {nil, all(), nil},
	} {
		n, e := merge.Each(c.l, c.s, c.f)
		same(t, "Each", fmt.Sprint(n, e), "0 0")
	}
}

// P16.6: the goroutine that called Each calls f; so it is never called by several at a time.
func TestEachCallsAlone(t *testing.T) {
	busy, calls := 0, 0
	n, _ := merge.Each(long(9), all(), func(api.Point) bool {
		busy++
		runtime.Gosched()
		if busy != 1 {
			t.Errorf("called by %d", busy)
		}
		busy--
		calls++
		return true
	})
	same(t, "calls", calls, n)
}

// P16.6: f may call all that stands here.
func TestEachWithinItself(t *testing.T) {
	l := long(4)
	want := merged(t, l...)
	before := runtime.NumGoroutine()
	total := 0
	n, e := merge.Each(l, span(0, 19), func(p api.Point) bool {
		inner, _ := merge.Each(l, span(0, p.T), func(q api.Point) bool {
			last, _ := merge.Each(l, span(q.T, q.T), func(api.Point) bool { return false })
			total += last
			return true
		})
		same(t, "inner", inner, p.T+1)
		is(t, "All", merged(t, l...), want)
		is(t, "Seq", run(slices.Collect(seq(t, l, span(3, 5)))), run(want.Points[3:6]))
		return merge.Normal(cut(t, two(t, l[0], l[1]), span(0, 9)))
	})
	same(t, "outer", fmt.Sprint(n, e, total), "20 0 210")
	ended(t, before)
}

// P16.6: a panic of f goes through as it is, whichever call it is of, and no goroutine is left.
func TestEachPanics(t *testing.T) {
	what := errors.New("stop")
	for _, runs := range []int{1, 3, 40} {
		l := long(runs)
		before := runtime.NumGoroutine()
		for _, at := range []int{1, 2, 50, 100 * runs} {
			calls := 0
			func() {
				defer func() {
					if got := recover(); got != what {
						t.Errorf("%v", got)
					}
				}()
				n, e := merge.Each(l, all(), func(api.Point) bool {
					calls++
					if calls == at {
						panic(what)
					}
					return true
				})
				t.Errorf("Each answers %d, %d", n, e)
			}()
			same(t, "calls", calls, at)
			ended(t, before)
		}
	}
}

// P16.6: the goroutines have ended when Each answers, they don't just end soon. (By one processor, one that has done all is mostly gone before anybody goes on.)
func TestEachWaits(t *testing.T) {
	defer runtime.GOMAXPROCS(runtime.GOMAXPROCS(1))
	l := long(8)
	before := runtime.NumGoroutine()
	waited := 0
	for range 100 {
		merge.Each(l, all(), func(p api.Point) bool { return p.T < 20 })
		if runtime.NumGoroutine() <= before {
			waited++
		}
		ended(t, before)
	}
	if waited < 50 {
		t.Errorf("goroutines were left behind %d calls of 100", 100-waited)
	}
}

// P16.6: nor is one left where f ends the goroutine that called Each.
func TestEachEndsWithItsGoroutine(t *testing.T) {
	before := runtime.NumGoroutine()
	for range 20 {
		gone := make(chan struct{})
		go func() {
			defer close(gone)
			merge.Each(long(5), all(), func(p api.Point) bool {
				if p.T == 7 {
					runtime.Goexit()
				}
				return true
			})
			t.Error("Each answers")
		}()
		<-gone
	}
	ended(t, before)
}

// P16.6: many Each at once, over the same runs.
func TestEachByMany(t *testing.T) {
	l := long(20)
	want := merged(t, l...).Points
	before := runtime.NumGoroutine()
	var wait sync.WaitGroup
	for i := range 8 {
		wait.Go(func() {
			for k := range 10 {
				var got []api.Point
				most := 1 + (i*10+k)*len(want)/79
				n, e := merge.Each(l, all(), func(p api.Point) bool {
					got = append(got, p)
					return len(got) < most
				})
				if e != api.OK || n != len(got) || !slices.Equal(got, want[:min(most, len(want))]) {
					t.Errorf("%d, %d: %d points of %d", n, e, len(got), most)
				}
			}
		})
	}
	wait.Wait()
	ended(t, before)
}
