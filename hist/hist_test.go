package hist_test

import (
	"math/rand"
	"sync"
	"testing"

	"fathom/api"
	"fathom/hist"
)

func TestNew(t *testing.T) {
	for _, bits := range []int{-1 << 63, -1, 0, 1, api.MaxBits + 1, 64, 1<<63 - 1} {
		if h, e := hist.New(bits); h != nil || e != api.ErrHistBits {
			t.Errorf("New(%d): %v, %d", bits, h, e)
		}
	}
	for bits := api.MinBits; bits <= api.MaxBits; bits++ {
		model{bits: bits}.holds(t, "an empty one", empty(t, bits))
	}
}

// TestExamples: values 1 to 4, by a sign and a power of 2.
func TestExamples(t *testing.T) {
	h := of(t, 12, f(1), f(2), f(3), f(4))
	is(t, "Buckets", h.Buckets(), 3)
	for q, want := range map[float64][2]uint64{0.5: {f(2), 0x400fffffffffffff}, 1: {f(4), f(4)}, 0: {f(1), 0x3fffffffffffffff}} {
		a, b, ok, e := h.Quantile(f(q))
		is(t, "Quantile", [2]uint64{a, b}, want)
		is(t, "Quantile's ok", ok, true)
		is(t, "Quantile's error", e, api.OK)
	}
	least, greatest, ok := h.Ends()
	is(t, "Ends", [2]uint64{least, greatest}, [2]uint64{f(1), f(4)})
	is(t, "Ends' ok", ok, true)
	for v, want := range map[float64][2]uint64{2: {1, 3}, 3.5: {1, 3}, 4: {4, 4}, 5: {4, 4}, 0.5: {0, 0}, 1: {0, 1}} {
		a, b := h.Rank(f(v))
		is(t, "Rank", [2]uint64{a, b}, want)
	}
	is(t, "Add of a NaN", h.Add(minus(api.NaN64), 1), api.OK)
	is(t, "Count", h.Count(), 4)
	is(t, "Nans", h.Nans(), 1)
}

func TestAdd(t *testing.T) {
	r := rand.New(rand.NewSource(191))
	for i := range 400 {
		m := model{bits: api.MinBits + i%(api.MaxBits-api.MinBits+1)}
		h := empty(t, m.bits)
		for range r.Intn(12) {
			v, n := anyValue(r), r.Intn(4)
			is(t, "Add", h.Add(v, uint64(n)), api.OK)
			for range n {
				m.l = append(m.l, v)
			}
		}
		m.holds(t, "Adds", h)
	}
}

// TestAddNone: a value that is added no times is not there, wherever it lies.
func TestAddNone(t *testing.T) {
	for _, l := range [][]uint64{nil, {f(1)}, {api.NaN64}} {
		h := of(t, 8, l...)
		for _, v := range edges() {
			is(t, "Add 0 times", h.Add(v, 0), api.OK)
		}
		model{8, l}.holds(t, "Adds of nothing", h)
	}
}

func TestAddFull(t *testing.T) {
	for _, v := range []uint64{f(1), api.NaN64} {
		h := of(t, 9, f(2), api.NaN64)
		model := model{9, []uint64{f(2), api.NaN64}}
		for _, n := range []uint64{api.MaxCount - 1, api.MaxCount, 1 << 63, 1<<64 - 2, 1<<64 - 1} {
			is(t, "Add of too many", h.Add(v, n), api.ErrHistFull)
			model.holds(t, "behind Adds of too many", h)
		}
		is(t, "Add of all that fit", h.Add(v, api.MaxCount-2), api.OK)
		is(t, "Count and Nans", h.Count()+h.Nans(), api.MaxCount)
		before := string(h.Bytes())
		for _, w := range []uint64{f(1), f(3), api.NaN64} {
			is(t, "Add to a full one", h.Add(w, 1), api.ErrHistFull)
			is(t, "Add of nothing to a full one", h.Add(w, 0), api.OK)
		}
		is(t, "a full one", string(h.Bytes()), before)
	}
}

func TestMerge(t *testing.T) {
	r := rand.New(rand.NewSource(192))
	for i := range 200 {
		m := model{bits: api.MinBits + i%(api.MaxBits-api.MinBits+1)}
		h := empty(t, m.bits)
		for range r.Intn(4) {
			more := anyValues(r, r.Intn(6))
			o := of(t, m.bits, more...)
			is(t, "Merge", h.Merge(o), api.OK)
			model{m.bits, more}.holds(t, "what was merged", o)
			m.l = append(m.l, more...)
			m.holds(t, "Merge", h)
			is(t, "Add to what was merged", o.Add(f(77), 3), api.OK)
			m.holds(t, "behind an Add to what was merged", h)
		}
		is(t, "Merge with itself", h.Merge(h), api.OK)
		m.l = append(m.l, m.l...)
		m.holds(t, "Merge with itself", h)
	}
}

func TestMergeErrors(t *testing.T) {
	m := model{12, []uint64{f(2), f(-7), api.NaN64}}
	h := of(t, m.bits, m.l...)
	for _, bits := range []int{2, 11, 13, 24} {
		o := of(t, bits, f(100))
		is(t, "Merge of other bits", h.Merge(o), api.ErrHistBits)
		is(t, "Add", o.Add(f(5), api.MaxCount-1), api.OK)
		is(t, "Merge of other bits, and too many", h.Merge(o), api.ErrHistBits)
	}
	for _, v := range []uint64{f(1), api.NaN64} {
		o := empty(t, m.bits)
		is(t, "Add", o.Add(v, api.MaxCount-2), api.OK)
		is(t, "Merge of too many", h.Merge(o), api.ErrHistFull)
		is(t, "Merge with itself of too many", o.Merge(o), api.ErrHistFull)
		is(t, "Count and Nans", o.Count()+o.Nans(), api.MaxCount-2)
	}
	o := empty(t, m.bits)
	is(t, "Add", o.Add(f(1), api.MaxCount/2), api.OK)
	is(t, "Add", o.Add(api.NaN64, api.MaxCount/2), api.OK)
	is(t, "Merge of a full one", h.Merge(o), api.ErrHistFull)
	m.holds(t, "behind Merges that were refused", h)
	is(t, "Merge of none", o.Merge(empty(t, m.bits)), api.OK)

	half := empty(t, m.bits)
	is(t, "Add", half.Add(f(1), api.MaxCount/4), api.OK)
	is(t, "Add", half.Add(api.NaN64, api.MaxCount/4), api.OK)
	is(t, "Merge with itself up to the bound", half.Merge(half), api.OK)
	is(t, "a full one", string(half.Bytes()), string(o.Bytes()))
}

func TestQuantileErrors(t *testing.T) {
	for _, h := range []*hist.Hist{empty(t, 5), of(t, 5, api.NaN64), of(t, 5, f(1), f(2))} {
		for _, q := range noShares() {
			a, b, ok, e := h.Quantile(q)
			if a != 0 || b != 0 || ok || e != api.ErrHistRank {
				t.Errorf("Quantile(%x): %x, %x, %v, %d", q, a, b, ok, e)
			}
		}
	}
}

// TestQuantileOfMany: places among counts that no float holds.
func TestQuantileOfMany(t *testing.T) {
	h := of(t, 12, f(1), f(2))
	is(t, "Add", h.Add(f(2), api.MaxCount/2-2), api.OK)
	is(t, "Add", h.Add(f(4), api.MaxCount/2), api.OK)
	for q, want := range map[uint64]uint64{0: f(1), 1: f(1), f(1.0 / (1 << 53)): f(1), f(1.0/(1<<53)) + 1: f(2), f(0.5) - 1: f(2), f(0.5): f(2), f(0.5) + 1: f(4), f(1): f(4)} {
		a, _, ok, e := h.Quantile(q)
		is(t, "Quantile", [2]uint64{q, a}, [2]uint64{q, want})
		is(t, "Quantile's ok", ok, true)
		is(t, "Quantile's error", e, api.OK)
	}
	least, most := h.Rank(f(3))
	is(t, "Rank", [2]uint64{least, most}, [2]uint64{1, api.MaxCount / 2})
}

// TestWidth: what is told lies about Exact and about the rank, and is never wider with more bits.
func TestWidth(t *testing.T) {
	r := rand.New(rand.NewSource(193))
	for range 60 {
		l, q, v := anyValues(r, 1+r.Intn(12)), anyShare(r), anyValue(r)
		value, some, _ := hist.Exact(l, q)
		rank := uint64(0)
		for _, x := range kept(l) {
			if !nan(v) && place(x) <= place(v) {
				rank++
			}
		}
		lastA, lastB, lastLeast, lastMost := uint64(0), ^uint64(0), uint64(0), uint64(len(l))
		for bits := api.MinBits; bits <= api.MaxBits; bits++ {
			h := of(t, bits, l...)
			a, b, ok, _ := h.Quantile(q)
			least, most := h.Rank(v)
			is(t, "ok", ok, some)
			if ok && (place(a) < lastA || place(b) > lastB || place(a) > place(value) || place(b) < place(value)) {
				t.Fatalf("Quantile(%x) of %x with %d bits: %x, %x", q, l, bits, a, b)
			}
			if ok && place(a)>>(64-bits) != place(b)>>(64-bits) {
				t.Fatalf("Quantile(%x) of %x with %d bits: not one bucket", q, l, bits)
			}
			if least > rank || most < rank || least < lastLeast || most > lastMost {
				t.Fatalf("Rank(%x) of %x with %d bits: %d, %d", v, l, bits, least, most)
			}
			lastA, lastB, lastLeast, lastMost = place(a), place(b), least, most
		}
	}
}

// TestOrder: neither order nor grouping is to be seen.
func TestOrder(t *testing.T) {
	r := rand.New(rand.NewSource(194))
	for range 100 {
		l := anyValues(r, 1+r.Intn(15))
		bits := api.MinBits + r.Intn(api.MaxBits-api.MinBits+1)
		want := string(of(t, bits, l...).Bytes())
		r.Shuffle(len(l), func(i, j int) { l[i], l[j] = l[j], l[i] })
		is(t, "Bytes in another order", string(of(t, bits, l...).Bytes()), want)
		i := r.Intn(len(l) + 1)
		a, b := of(t, bits, l[:i]...), of(t, bits, l[i:]...)
		x, y := of(t, bits), of(t, bits)
		for _, h := range []*hist.Hist{a, b} {
			is(t, "Merge", x.Merge(h), api.OK)
		}
		for _, h := range []*hist.Hist{b, a} {
			is(t, "Merge", y.Merge(h), api.OK)
		}
		is(t, "Bytes of Merges", string(x.Bytes()), want)
		is(t, "Bytes of Merges in another order", string(y.Bytes()), want)
	}
}

// TestReadersTogether: calls that change nothing may be made at the same time.
func TestReadersTogether(t *testing.T) {
	m := model{10, anyValues(rand.New(rand.NewSource(195)), 50)}
	h := of(t, m.bits, m.l...)
	var all sync.WaitGroup
	for range 4 {
		all.Go(func() { m.holds(t, "a reader", h) })
	}
	all.Wait()
}
