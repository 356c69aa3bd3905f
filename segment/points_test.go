package segment_test

import (
	"iter"
	"math"
	"math/rand"
	"testing"

	"fathom/api"
	"fathom/segment"
)

// The chapter's example 2.
func TestExampleOfPoints(t *testing.T) {
	s := made(t, 2, line("k", 1, 2, 3))
	if h, e := s.Heads(0); e != api.OK || len(h) != 2 || h[0].Count != 2 || h[1].Count != 1 {
		t.Errorf("Heads: %v, %d", h, e)
	}
	l, e := s.Points(0, api.Span{From: 3, Last: 9})
	if e != api.OK || len(l) != 1 || l[0] != (api.Point{T: 3, V: 9}) || s.Reads() != 1 {
		t.Errorf("3 to 9: %v, %d, %d reads", l, e, s.Reads())
	}
	if l, e := s.Points(0, api.Span{From: 5, Last: 9}); e != api.OK || len(l) != 0 || s.Reads() != 1 {
		t.Errorf("5 to 9: %v, %d, %d reads", l, e, s.Reads())
	}
	_, e = s.Block(0, 2)
	is(t, "Block(0, 2)", e, api.ErrSegmentNone)
	_, e = s.Kind(1)
	is(t, "Kind(1)", e, api.ErrSegmentNone)
}

// P12.5: of each span the points in it, by just the blocks that it meets.
func TestPointsOfSpans(t *testing.T) {
	for size := 1; size <= 5; size++ {
		l := []api.Row{line("a", 0, 2, 3, 7, 8, 12), line("b", 5), line("c")}
		f := frameOf(size, l)
		s := made(t, size, l...)
		for row := range l {
			for from := int64(-2); from <= 14; from++ {
				for last := int64(-3); last <= 14; last++ {
					spanAsModel(t, s, f, row, api.Span{From: from, Last: last})
				}
			}
		}
	}
}

// P12.5: at the ends of all times.
func TestPointsAtTheEnds(t *testing.T) {
	least, most := int64(math.MinInt64), int64(math.MaxInt64)
	l := []api.Row{line("a", least, least+1, -1, 0, 1, most-1, most)}
	ends := []int64{least, least + 1, least + 2, -2, -1, 0, 1, 2, most - 2, most - 1, most}
	for size := 1; size <= 4; size++ {
		f, s := frameOf(size, l), made(t, size, l...)
		for _, from := range ends {
			for _, last := range ends {
				spanAsModel(t, s, f, 0, api.Span{From: from, Last: last})
			}
		}
	}
}

// P12.7: points of two spans that share no time are, put together, those of both.
func TestSpansPutTogether(t *testing.T) {
	rnd := rand.New(rand.NewSource(127))
	for range 300 {
		r := someRow(rnd, "k")
		s := made(t, 1+rnd.Intn(3), r)
		for cut := int64(-5); cut < 20; cut++ {
			a, _ := s.Points(0, api.Span{From: math.MinInt64, Last: cut})
			b, _ := s.Points(0, api.Span{From: cut + 1, Last: math.MaxInt64})
			if text(append(a, b...)) != text(r.Run.Points) {
				t.Fatalf("cut at %d: %v, %v; want %v", cut, a, b, r.Run.Points)
			}
		}
	}
}

// P12.5: a block is decoded when its first point is wanted, and not ahead of that.
func TestBetweenWaits(t *testing.T) {
	s := made(t, 2, line("k", 1, 2, 3, 4, 5))
	seq := s.Between(0, api.Span{From: 2, Last: 9})
	if s.Reads() != 0 {
		t.Errorf("%d reads ahead of the first point", s.Reads())
	}
	reads := []int64{}
	for p, e := range seq {
		if e != api.OK || p.T != int64(len(reads)+2) {
			t.Errorf("%v, %d", p, e)
		}
		reads = append(reads, s.Reads())
	}
	if text(reads) != text([]int64{1, 2, 2, 3}) {
		t.Errorf("reads at each point: %v", reads)
	}
}

// P12.5: it may be left at each point, and ranged over again: then it begins anew.
func TestBetweenIsLeft(t *testing.T) {
	s := made(t, 2, line("k", 1, 2, 3, 4, 5))
	seq := s.Between(0, all())
	for stop := int64(1); stop <= 5; stop++ {
		was, seen := s.Reads(), int64(0)
		for p, e := range seq {
			seen++
			if p.T != seen || e != api.OK {
				t.Errorf("%v, %d", p, e)
			}
			if p.T == stop {
				break
			}
		}
		if seen != stop || s.Reads()-was != (stop+1)/2 {
			t.Errorf("left at %d: %d points, %d reads", stop, seen, s.Reads()-was)
		}
	}
}

// P12.5: two may be ranged over in one another.
func TestBetweenInOneAnother(t *testing.T) {
	s := made(t, 2, line("k", 1, 2, 3))
	seq := s.Between(0, all())
	turns := 0
	for a := range seq {
		for b := range seq {
			turns++
			if a.T == b.T {
				break
			}
		}
	}
	if turns != 6 {
		t.Errorf("%d turns", turns)
	}
}

// spoilt tells a row of five blocks, two points each, the fourth of which no call can decode.
func spoilt(t *testing.T) *segment.Segment {
	t.Helper()
	f := frameOf(2, []api.Row{line("k", 1, 2, 3, 4, 5, 6, 7, 8, 9, 10)})
	f.rows[0].setBlock(3, turned(f.rows[0].blocks[3], -1))
	return opens(t, f.bytes())
}

// P12.5: at an error Between tells a zero point and it, and then no more; what stands ahead of it is told.
func TestBetweenMeetsAnError(t *testing.T) {
	s := spoilt(t)
	if got := heard(s.Between(0, api.Span{From: 4, Last: 10})); text(got) != text([]turn{{4, 0}, {5, 0}, {6, 0}, {0, api.ErrBlockSum}}) {
		t.Errorf("4 to 10: %v", got)
	}
	if s.Reads() != 3 {
		t.Errorf("%d reads", s.Reads())
	}
	if got := heard(s.Between(0, api.Span{From: 7, Last: 7})); text(got) != text([]turn{{0, api.ErrBlockSum}}) {
		t.Errorf("7: %v", got)
	}
	if got := heard(s.Between(0, api.Span{From: 9, Last: 99})); text(got) != text([]turn{{9, 0}, {10, 0}}) {
		t.Errorf("9 to 99: %v", got)
	}
	for range s.Between(0, api.Span{From: 7, Last: 7}) {
		break // whoever leaves at the error is not asked again
	}
}

// turn is what is told in one turn.
type turn struct {
	at int64
	e  api.Errno
}

func heard(seq iter.Seq2[api.Point, api.Errno]) []turn {
	l := []turn{}
	for p, e := range seq {
		l = append(l, turn{p.T, e})
	}
	return l
}

// P12.5: a block that is refused is no hindrance to a span that doesn't meet it.
func TestPointsMeetAnError(t *testing.T) {
	for _, c := range []struct {
		span  api.Span
		e     api.Errno
		count int
		reads int64
	}{
		{api.Span{From: 1, Last: 6}, api.OK, 6, 3},
		{api.Span{From: 1, Last: 7}, api.ErrBlockSum, 0, 4},
		{api.Span{From: 8, Last: 10}, api.ErrBlockSum, 0, 1},
		{api.Span{From: 9, Last: 10}, api.OK, 2, 1},
		{api.Span{From: 8, Last: 7}, api.OK, 0, 0},
		{all(), api.ErrBlockSum, 0, 4},
	} {
		s := spoilt(t)
		if l, e := s.Points(0, c.span); len(l) != c.count || e != c.e || s.Reads() != c.reads {
			t.Errorf("%v: %v, %d, %d reads; want %d, %d, %d", c.span, l, e, s.Reads(), c.count, c.e, c.reads)
		}
	}
}
