package exact_test

import (
	"math/rand"
	"slices"
	"testing"

	"fathom/api"
)

// state is what all states have.
type state interface {
	Count() uint64
	Bytes() []byte
}

// loose is a state that has no order.
type loose[S any] interface {
	state
	Merge(o S) api.Errno
}

// merged tells a state of what is cut into groups, in another order, which are merged; of makes one group's.
func merged[S loose[S], V any](t *testing.T, r *rand.Rand, l []V, of func(t *testing.T, l []V) S) S {
	t.Helper()
	x, l := of(t, nil), slices.Clone(l)
	r.Shuffle(len(l), func(i, j int) { l[i], l[j] = l[j], l[i] })
	for len(l) > 0 {
		n := 1 + r.Intn(len(l))
		part := of(t, l[:n])
		if r.Intn(2) == 0 {
			part, x = x, part
		}
		stays := part.Bytes()
		same(t, "Merge", x.Merge(part), api.OK)
		if !slices.Equal(part.Bytes(), stays) {
			t.Fatal("Merge has changed the other one")
		}
		l = l[n:]
	}
	return x
}

// filled is a state that is to be filled up to MaxCount, what reads it, what adds something, and what fails unless it tells the model's values, so many times.
type filled[S loose[S]] struct {
	x     S
	of    func(b []byte) (S, api.Errno)
	more  func(x S) api.Errno
	holds func(what string, x S, times uint64)
}

// fills fails unless MaxCount is the most that a state takes; with an error nothing has changed. It begins with 1 or 2 and doubles, by Merges with itself.
func (c filled[S]) fills(t *testing.T, none S) {
	t.Helper()
	x, times := c.x, uint64(1)
	for x.Count() < api.MaxCount/2 {
		same(t, "Merge with itself", x.Merge(x), api.OK)
		times *= 2
	}
	c.holds("half full", x, times)
	half, _ := c.of(x.Bytes())
	same(t, "more than half", c.more(x), api.OK)
	b := x.Bytes()
	same(t, "Merge beyond", x.Merge(half), api.ErrExactFull)
	same(t, "Merge with itself beyond", x.Merge(x), api.ErrExactFull)
	if !slices.Equal(x.Bytes(), b) {
		t.Fatal("a refused Merge has changed something")
	}
	same(t, "Merge to the full", half.Merge(half), api.OK)
	same(t, "Add beyond", c.more(half), api.ErrExactFull)
	same(t, "Merge of none", half.Merge(none), api.OK)
	var null S
	same(t, "Merge of nil", half.Merge(null), api.OK)
	c.holds("full, and refused", half, 2*times)
	again, e := c.of(half.Bytes())
	same(t, "reading", e, api.OK)
	c.holds("full, and read", again, 2*times)
}
