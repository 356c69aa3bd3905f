package segment_test

import (
	"slices"
	"sync"
	"testing"

	"fathom/api"
	"fathom/segment"
)

func fill[N any](l []N, x N) {
	for i := range l {
		l[i] = x
	}
}

// P12.8, R2: bytes that are handed in stay as they are, and may be written over behind Open.
func TestBytesAreNotKept(t *testing.T) {
	l := []api.Row{full("a"), line("b"), full("c")}
	b := builds(t, 3, l)
	room := append(slices.Clone(b), 7, 7, 7)
	s := opens(t, room[:len(b)])
	if !slices.Equal(room, append(slices.Clone(b), 7, 7, 7)) {
		t.Error("Open has changed its bytes")
	}
	fill(room, 0xee)
	tells(t, s, 3, l)
	if n, found := s.Find("c"); n != 2 || !found {
		t.Errorf("Find: %d, %t", n, found)
	}
}

// R2: rows that are handed in stay as they are; what lies behind a list's length is neither read nor written.
func TestRowsStay(t *testing.T) {
	r := full("a")
	roomy := r
	roomy.Run.Points = append(slices.Clone(r.Run.Points), api.Point{T: 3, V: 3})[:len(r.Run.Points)]
	roomy.Run.Spans = append(slices.Clone(r.Run.Spans), api.Span{From: 3, Last: 3})[:len(r.Run.Spans)]
	roomy.Cells = append(slices.Clone(r.Cells), api.Cell{First: 3})[:len(r.Cells)]
	roomy.Cells[0].State = []byte("one and more")[:3]
	l := append([]api.Row{roomy}, line("0"))[:1]
	b, e := segment.Build(2, l)
	if want := frameOf(2, []api.Row{r}).bytes(); e != api.OK || !slices.Equal(b, want) {
		t.Errorf("%x, %d; want %x", b, e, want)
	}
	if text(l) != text([]api.Row{r}) || text(l[:2][1]) != text(line("0")) || string(roomy.Cells[0].State[:12]) != "one and more" {
		t.Error("Build has changed its rows")
	}
	if p := roomy.Run.Points[:8][7]; p != (api.Point{T: 3, V: 3}) {
		t.Errorf("Build has written %v behind the points", p)
	}
	other, _ := segment.Build(2, l)
	fill(b[:cap(b)], 0xee)
	tells(t, opens(t, other), 2, []api.Row{r})
}

// R2: nil and empty lists are one.
func TestNilAndEmpty(t *testing.T) {
	bare := api.Row{Key: "k", Kind: api.KindWide}
	empty := api.Row{Key: "k", Kind: api.KindWide, Run: api.Run{Points: []api.Point{}, Spans: []api.Span{}}, Cells: []api.Cell{}}
	if !slices.Equal(builds(t, 2, []api.Row{bare}), builds(t, 2, []api.Row{empty})) {
		t.Error("nil and empty lists are told apart")
	}
	bare.Cells, empty.Cells = []api.Cell{{State: nil}}, []api.Cell{{State: []byte{}}}
	if !slices.Equal(builds(t, 2, []api.Row{bare}), builds(t, 2, []api.Row{empty})) {
		t.Error("nil and empty states are told apart")
	}
}

// R2: what is told is the caller's own, spare room too: writing there changes nothing that is told later.
func TestAnswersAreNew(t *testing.T) {
	l := []api.Row{full("a"), full("b")}
	s := made(t, 3, l...)
	keys := s.Keys()
	fill(keys[:cap(keys)], "#")
	heads, _ := s.Heads(0)
	fill(heads[:cap(heads)], api.BlockHead{})
	spans, _ := s.Spans(0)
	fill(spans[:cap(spans)], api.Span{})
	for n := range 3 {
		points, _ := s.Block(0, n)
		fill(points[:cap(points)], api.Point{})
	}
	points, _ := s.Points(0, all())
	fill(points[:cap(points)], api.Point{})
	cells, _ := s.Cells(0)
	for _, c := range cells {
		fill(c.State[:cap(c.State)], '#')
	}
	fill(cells[:cap(cells)], api.Cell{})
	spans, _ = s.Spans(0)
	_ = append(spans, api.Span{From: 9, Last: 9})
	tells(t, s, 3, l)
}

// R2: no two lists of one answer share memory.
func TestListsOfARowAreApart(t *testing.T) {
	l := []api.Row{full("a"), full("b")}
	s := made(t, 3, l...)
	for i := range full("a").Cells {
		r, _ := s.Row(0)
		state := r.Cells[i].State
		fill(state[:cap(state)], '#')
		_ = append(state, "##########"...)
		r.Cells[i].State = full("a").Cells[i].State
		if text(r) != text(l[0]) {
			t.Errorf("state %d shares memory: %s", i, text(r))
		}
	}
	r, _ := s.Row(0)
	again, _ := s.Row(0)
	fill(r.Run.Points[:cap(r.Run.Points)], api.Point{})
	fill(r.Run.Spans[:cap(r.Run.Spans)], api.Span{})
	fill(r.Cells[:cap(r.Cells)], api.Cell{})
	if text(again) != text(l[0]) {
		t.Errorf("two answers share memory: %s", text(again))
	}
	tells(t, s, 3, l)
}

// R2: segments of the same bytes have nothing in common.
func TestTwoSegments(t *testing.T) {
	b := builds(t, 3, []api.Row{full("a")})
	one, two := opens(t, b), opens(t, b)
	one.Check()
	if one.Reads() != 3 || two.Reads() != 0 {
		t.Errorf("%d, %d reads", one.Reads(), two.Reads())
	}
}

// P12.8: a segment may be used by several goroutines; each read is counted.
func TestManyGoroutines(t *testing.T) {
	l := []api.Row{full("a"), line("b", 1, 2, 3, 4), full("c")}
	s := made(t, 2, l...)
	var done sync.WaitGroup
	for range 8 {
		done.Go(func() {
			for range 30 {
				tells(t, s, 2, l)
				for p, e := range s.Between(1, api.Span{From: 2, Last: 4}) {
					if p.T < 2 || e != api.OK {
						t.Errorf("%v, %d", p, e)
					}
				}
				if n, found := s.Find("c"); n != 2 || !found {
					t.Errorf("Find: %d, %t", n, found)
				}
			}
		})
	}
	done.Wait()
	if want := int64(8 * 30 * (2*(4+2+4) + 2)); s.Reads() != want {
		t.Errorf("%d reads, want %d", s.Reads(), want)
	}
}
