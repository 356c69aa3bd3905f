package hist_test

import (
	"encoding/binary"
	"math"
	"math/big"
	"math/rand"
	"sort"
	"testing"

	"fathom/api"
	"fathom/hist"
)

func f(x float64) uint64 { return math.Float64bits(x) }

func minus(v uint64) uint64 { return v | api.Neg64 }

func is[T comparable](t *testing.T, what string, got, want T) {
	t.Helper()
	if got != want {
		t.Errorf("%s: %v, want %v", what, got, want)
	}
}

// place tells where a pattern stands in the order of all.
func place(v uint64) uint64 {
	if v&api.Neg64 != 0 {
		return api.Neg64 - 1 - v&^api.Neg64
	}
	return api.Neg64 + v
}

func nan(v uint64) bool { return math.IsNaN(math.Float64frombits(v)) }

// kept tells the values that are no NaNs, sorted.
func kept(l []uint64) []uint64 {
	var m []uint64
	for _, v := range l {
		if !nan(v) {
			m = append(m, v)
		}
	}
	sort.Slice(m, func(i, j int) bool { return place(m[i]) < place(m[j]) })
	return m
}

func rat(v uint64) *big.Rat { return new(big.Rat).SetFloat64(math.Float64frombits(v)) }

// whole tells the greatest whole number that is not above x (not below 0), and what is left.
func whole(x *big.Rat) (uint64, *big.Rat) {
	i := new(big.Int).Quo(x.Num(), x.Denom())
	return i.Uint64(), new(big.Rat).Sub(x, new(big.Rat).SetInt(i))
}

func times(q uint64, n uint64) *big.Rat {
	return new(big.Rat).Mul(rat(q), new(big.Rat).SetInt(new(big.Int).SetUint64(n)))
}

// placed tells a share's place among n.
func placed(q, n uint64) uint64 {
	if n == 0 {
		return 0
	}
	k, left := whole(times(q, n))
	if left.Sign() > 0 {
		k++
	}
	return max(k, 1)
}

// nearest tells the binary64 nearest to a number; -0 of one below 0.
func nearest(x *big.Rat) uint64 {
	v, _ := x.Float64()
	if v == 0 && x.Sign() < 0 {
		return api.Neg64
	}
	return f(v)
}

// blended tells what Blend must of values that are sorted, and not none.
func blended(l []uint64, q uint64) uint64 {
	i, left := whole(times(q, uint64(len(l)-1)))
	if left.Sign() == 0 {
		return l[i]
	}
	a, b := l[i], l[i+1]
	x, y := math.Float64frombits(a), math.Float64frombits(b)
	switch {
	case a == b:
		return a
	case math.IsInf(x, 0) && math.IsInf(y, 0):
		return api.NaN64
	case math.IsInf(x, 0):
		return a
	case math.IsInf(y, 0):
		return b
	}
	way := new(big.Rat).Sub(rat(b), rat(a))
	return nearest(way.Add(rat(a), way.Mul(way, left)))
}

// model is a histogram as a list of what was added.
type model struct {
	bits int
	l    []uint64
}

// bucket tells the leading bits of a value's place.
func (m model) bucket(v uint64) uint64 { return place(v) >> (64 - m.bits) }

func (m model) form() []byte {
	l := kept(m.l)
	b := append([]byte{0x48}, byte(m.bits))
	b = binary.BigEndian.AppendUint64(b, uint64(len(m.l)-len(l)))
	counts := map[uint64]uint64{}
	var buckets []uint64
	for _, v := range l {
		if counts[m.bucket(v)]++; counts[m.bucket(v)] == 1 {
			buckets = append(buckets, m.bucket(v))
		}
	}
	b = binary.BigEndian.AppendUint32(b, uint32(len(buckets)))
	if len(l) > 0 {
		b = binary.BigEndian.AppendUint64(b, l[0])
		b = binary.BigEndian.AppendUint64(b, l[len(l)-1])
	}
	for _, x := range buckets {
		b = binary.BigEndian.AppendUint32(b, uint32(x))
		b = binary.BigEndian.AppendUint64(b, counts[x])
	}
	return b
}

// ends tells the values between which the one of a share lies.
func (m model) ends(q uint64) (least, greatest uint64) {
	l := kept(m.l)
	v := l[placed(q, uint64(len(l)))-1]
	size := uint64(1) << (64 - m.bits)
	first := m.bucket(v) * size
	last := first + (size - 1)
	return unplaced(max(first, place(l[0]))), unplaced(min(last, place(l[len(l)-1])))
}

func unplaced(p uint64) uint64 {
	if p >= api.Neg64 {
		return p - api.Neg64
	}
	return minus(api.Neg64 - 1 - p)
}

func (m model) rank(v uint64) (least, most uint64) {
	l := kept(m.l)
	n := uint64(len(l))
	switch {
	case nan(v) || n == 0 || place(v) < place(l[0]):
		return 0, 0
	case place(v) >= place(l[n-1]):
		return n, n
	}
	for _, x := range l {
		if m.bucket(x) < m.bucket(v) {
			least++
		}
		if m.bucket(x) <= m.bucket(v) {
			most++
		}
	}
	return least, most
}

// holds tells whether a histogram is as the model says.
func (m model) holds(t *testing.T, what string, h *hist.Hist) {
	t.Helper()
	l := kept(m.l)
	is(t, what+": Bits", h.Bits(), m.bits)
	is(t, what+": Count", h.Count(), uint64(len(l)))
	is(t, what+": Nans", h.Nans(), uint64(len(m.l)-len(l)))
	is(t, what+": Bytes", string(h.Bytes()), string(m.form()))
	is(t, what+": Buckets", h.Buckets(), int(binary.BigEndian.Uint32(m.form()[10:])))
	a, b, ok := h.Ends()
	is(t, what+": Ends' ok", ok, len(l) > 0)
	want := [2]uint64{}
	if len(l) > 0 {
		want = [2]uint64{l[0], l[len(l)-1]}
	}
	is(t, what+": Ends", [2]uint64{a, b}, want)
	for _, q := range shares() {
		m.holdsQuantile(t, what, h, q)
	}
	for _, v := range append(edges(), m.l...) {
		least, most := h.Rank(v)
		wantLeast, wantMost := m.rank(v)
		is(t, what+": Rank", [3]uint64{v, least, most}, [3]uint64{v, wantLeast, wantMost})
	}
}

func (m model) holdsQuantile(t *testing.T, what string, h *hist.Hist, q uint64) {
	t.Helper()
	a, b, ok, e := h.Quantile(q)
	is(t, what+": Quantile's error", e, api.OK)
	is(t, what+": Quantile's ok", ok, len(kept(m.l)) > 0)
	want := [3]uint64{q}
	if ok {
		want[1], want[2] = m.ends(q)
	}
	is(t, what+": Quantile", [3]uint64{q, a, b}, want)
}

// shares: those at which something turns.
func shares() []uint64 {
	return []uint64{0, minus(0), 1, f(0.1), f(0.2), f(0.25), f(1.0 / 3), f(0.5) - 1, f(0.5), f(0.5) + 1, f(0.51), f(0.75), f(0.9), f(1) - 1, f(1)}
}

func noShares() []uint64 {
	return []uint64{api.NaN64, minus(api.NaN64), 0x7ff0000000000001, ^uint64(0), f(1) + 1, f(1.5), f(-0.5), minus(1), minus(f(1)), api.Inf64, minus(api.Inf64)}
}

// edges: values at which buckets and classes turn.
func edges() []uint64 {
	l := []uint64{0, 1, f(0.5), f(1) - 1, f(1), f(1) + 1, f(2) - 1, f(2), f(4), 0x000fffffffffffff, 0x0010000000000000, api.Inf64 - 1, api.Inf64, api.Inf64 + 1, api.NaN64, api.NaN64 + 5, math.MaxInt64}
	for _, v := range l[:len(l):len(l)] {
		l = append(l, minus(v))
	}
	return l
}

func anyValue(r *rand.Rand) uint64 {
	switch r.Intn(5) {
	case 0:
		l := edges()
		return l[r.Intn(len(l))]
	case 1:
		return f(float64(r.Intn(9) - 4))
	case 2:
		return f(r.NormFloat64())
	}
	return r.Uint64()
}

func anyValues(r *rand.Rand, n int) []uint64 {
	l := make([]uint64, n)
	for i := range l {
		l[i] = anyValue(r)
	}
	return l
}

func anyShare(r *rand.Rand) uint64 {
	switch r.Intn(4) {
	case 0:
		l := shares()
		return l[r.Intn(len(l))]
	case 1:
		n := 1 + r.Intn(40)
		return f(float64(r.Intn(n+1)) / float64(n))
	case 2:
		return r.Uint64() % (f(1) + 1)
	}
	return f(r.Float64())
}

// empty tells one that New made.
func empty(t *testing.T, bits int) *hist.Hist {
	t.Helper()
	h, e := hist.New(bits)
	if h == nil || e != api.OK {
		t.Fatalf("New(%d): %v, %d", bits, h, e)
	}
	return h
}

func of(t *testing.T, bits int, l ...uint64) *hist.Hist {
	t.Helper()
	h := empty(t, bits)
	for _, v := range l {
		is(t, "Add", h.Add(v, 1), api.OK)
	}
	return h
}
