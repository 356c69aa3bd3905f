package exact_test

import (
	"math"
	"math/big"
	"math/rand"
	"slices"
	"testing"

	"fathom/api"
	"fathom/exact"
)

// pairs is the model of a Pairs: sums times 2^1074, 2^2148.
type pairs struct {
	n, odd           uint64
	a, aa, b, bb, ab *big.Int
}

func pairsOf(l [][2]uint64) pairs {
	x := pairs{a: num(0), aa: num(0), b: num(0), bb: num(0), ab: num(0)}
	for _, p := range l {
		x.n++
		if !isFinite(p[0]) || !isFinite(p[1]) {
			x.odd++
			continue
		}
		a, b := units(p[0]), units(p[1])
		x.a, x.aa, x.b, x.bb, x.ab = add(x.a, a), add(x.aa, mul(a, a)), add(x.b, b), add(x.bb, mul(b, b)), add(x.ab, mul(a, b))
	}
	return x
}

func (x pairs) times(k uint64) pairs {
	by := new(big.Int).SetUint64(k)
	return pairs{n: x.n * k, odd: x.odd * k, a: mul(x.a, by), aa: mul(x.aa, by), b: mul(x.b, by), bb: mul(x.bb, by), ab: mul(x.ab, by)}
}

func (x pairs) form() []byte {
	return slices.Concat(numForm(x.n, 8), numForm(x.odd, 8), numberForm(x.a), sizeForm(x.aa), numberForm(x.b), sizeForm(x.bb), numberForm(x.ab))
}

// spreads tells the chapter's x, y and w.
func (x pairs) spreads() (both, first, second *big.Int) {
	n := new(big.Int).SetUint64(x.n)
	return sub(mul(n, x.ab), mul(x.a, x.b)), sub(mul(n, x.aa), mul(x.a, x.a)), sub(mul(n, x.bb), mul(x.b, x.b))
}

func (x pairs) holds(t *testing.T, what string, p *exact.Pairs) {
	t.Helper()
	n := new(big.Int).SetUint64(x.n)
	both, first, second := x.spreads()
	same(t, what+": Count", p.Count(), x.n)
	cov, fit := told{}, told{}
	switch {
	case x.n > 0 && x.odd > 0:
		cov = told{api.NaN64, true}
	case x.n > 0:
		cov = told{nearest(ratio(both, mul(n, n), -2148)), true}
	}
	switch {
	case x.n > 1 && (x.odd > 0 || first.Sign() == 0):
		fit = told{api.NaN64, true}
	case x.n > 1:
		fit = told{nearest(ratio(both, first, 0)), true}
	}
	same(t, what+": Cov", tell(p.Cov()), cov)
	same(t, what+": Fit", tell(p.Fit()), fit)
	corr, ok := p.Corr()
	switch {
	case x.n < 2:
		same(t, what+": Corr", told{corr, ok}, told{})
	case x.odd > 0 || first.Sign() == 0 || second.Sign() == 0:
		same(t, what+": Corr", told{corr, ok}, told{api.NaN64, true})
	case !ok || (corr&api.Neg64 != 0) != (both.Sign() < 0) || !isRoot(corr&^api.Neg64, ratio(mul(both, both), mul(first, second), 0)):
		t.Fatalf("%s: Corr: %x, %v", what, corr, ok)
	case math.Abs(math.Float64frombits(corr)) > 1:
		t.Fatalf("%s: Corr: %x, beyond 1", what, corr)
	}
	if b := p.Bytes(); !slices.Equal(b, x.form()) {
		t.Fatalf("%s: Bytes: %x; want %x", what, b, x.form())
	}
}

func paired(t *testing.T, l [][2]uint64) *exact.Pairs {
	t.Helper()
	x := &exact.Pairs{}
	for _, p := range l {
		same(t, "Add", x.Add(p[0], p[1]), api.OK)
	}
	return x
}

// P4.14, P4.15, P4.12: any pairs tell what the chapter says, in any order and grouping.
func TestPairs(t *testing.T) {
	r := rand.New(rand.NewSource(51))
	for i := range 3000 {
		n := i % 8
		a, b := someValues(r, n), someValues(r, n)
		l := [][2]uint64{}
		for j := range n {
			switch i % 5 { // on a line, or next to one
			case 0:
				b[j] = a[j]
			case 1:
				b[j] = a[j] ^ api.Neg64
			case 2:
				b[j] = a[j] ^ uint64(r.Intn(2))
			}
			l = append(l, [2]uint64{a[j], b[j]})
		}
		model := pairsOf(l)
		model.holds(t, "added", paired(t, l))
		model.holds(t, "merged", merged(t, r, l, paired))
		x, e := exact.PairsOf(model.form())
		same(t, "PairsOf", e, api.OK)
		model.holds(t, "read", x)
	}
}

// P4.14: the chapter's example, and its special cases.
func TestPairsExamples(t *testing.T) {
	x := paired(t, [][2]uint64{{0, 0}, {f(1), f(1)}, {f(2), f(4)}})
	same(t, "Cov", tell(x.Cov()), told{0x3ff5555555555555, true})
	same(t, "Corr", tell(x.Corr()), told{0x3feebe9e77d23f6f, true})
	same(t, "Fit", tell(x.Fit()), told{f(2), true})
	one := paired(t, [][2]uint64{{f(3), f(4)}})
	same(t, "Cov of one", tell(one.Cov()), told{0, true})
	same(t, "Corr of one", tell(one.Corr()), told{})
	same(t, "Fit of one", tell(one.Fit()), told{})
	flat := paired(t, [][2]uint64{{f(1), f(4)}, {f(2), f(4)}})
	same(t, "Corr of one second", tell(flat.Corr()), told{api.NaN64, true})
	same(t, "Fit of one second", tell(flat.Fit()), told{0, true})
	steep := paired(t, [][2]uint64{{f(4), f(1)}, {f(4), f(2)}})
	same(t, "Corr of one first", tell(steep.Corr()), told{api.NaN64, true})
	same(t, "Fit of one first", tell(steep.Fit()), told{api.NaN64, true})
	cross := paired(t, [][2]uint64{{f(-1), f(1)}, {f(1), f(1)}, {f(-1), f(-1)}, {f(1), f(-1)}})
	same(t, "Corr of none", tell(cross.Corr()), told{0, true})
	same(t, "Cov of none", tell(cross.Cov()), told{0, true})
	for _, p := range [][2]uint64{{api.NaN64, f(1)}, {f(1), api.NaN64}, {api.Inf64, f(1)}, {f(1), api.Inf64 | api.Neg64}} {
		odd := paired(t, [][2]uint64{p})
		same(t, "Cov of one that is not finite", tell(odd.Cov()), told{api.NaN64, true})
		same(t, "Corr of one that is not finite", tell(odd.Corr()), told{})
		odd.Add(f(1), f(1))
		odd.Add(f(2), f(2))
		same(t, "Count", odd.Count(), 3)
		same(t, "Corr with it", tell(odd.Corr()), told{api.NaN64, true})
		same(t, "Fit with it", tell(odd.Fit()), told{api.NaN64, true})
	}
	least := paired(t, [][2]uint64{{1, 0}, {0, 1}}) // -2^-2150: it rounds to nought, and is below it
	same(t, "Cov below nought", tell(least.Cov()), told{api.Neg64, true})
	same(t, "Corr of these", tell(least.Corr()), told{f(-1), true})
}

// P4.14: MaxCount pairs at most; with an error nothing has changed.
func TestPairsFull(t *testing.T) {
	great := uint64(api.Inf64 - 1)
	for _, l := range [][][2]uint64{{{great, great}}, {{great, great | api.Neg64}}, {{f(1), f(2)}, {f(-5), f(7)}}, {{api.NaN64, 0}}} {
		filled[*exact.Pairs]{paired(t, l), exact.PairsOf, func(x *exact.Pairs) api.Errno { return x.Add(f(7), f(8)) }, func(what string, x *exact.Pairs, times uint64) {
			t.Helper()
			pairsOf(l).times(times).holds(t, what, x)
		}}.fills(t, &exact.Pairs{})
	}
}

// P4.15: what is no state's form, and what is just one.
func TestPairsOf(t *testing.T) {
	m, mm, zero, one := greatest(), mul(greatest(), greatest()), num(0), num(1)
	all := new(big.Int).SetUint64(api.MaxCount)
	minus := func(x *big.Int) *big.Int { return new(big.Int).Neg(x) }
	of := func(n, odd uint64, l ...*big.Int) pairs {
		return pairs{n: n, odd: odd, a: l[0], aa: l[1], b: l[2], bb: l[3], ab: l[4]}
	}
	for i, c := range []struct {
		p  pairs
		ok bool
	}{
		{of(0, 0, zero, zero, zero, zero, zero), true}, {of(api.MaxCount, 0, zero, zero, zero, zero, zero), true}, {of(api.MaxCount+1, 0, zero, zero, zero, zero, zero), false}, {of(math.MaxUint64, 1, zero, zero, zero, zero, zero), false}, {of(3, 3, zero, zero, zero, zero, zero), true}, {of(3, 4, zero, zero, zero, zero, zero), false}, {of(0, 1, zero, zero, zero, zero, zero), false},
		{of(1, 0, m, mm, m, mm, mm), true}, {of(1, 0, minus(m), mm, m, mm, minus(mm)), true}, {of(1, 0, minus(m), mm, m, mm, mm), false}, {of(1, 0, m, mm, m, mm, sub(mm, one)), false},
		{of(1, 0, add(m, one), mm, m, mm, mm), false}, {of(1, 0, m, mm, add(m, one), mm, mm), false}, {of(1, 0, zero, add(mm, one), zero, zero, zero), false}, {of(1, 0, zero, zero, zero, add(mm, one), zero), false}, {of(1, 0, m, mm, m, mm, add(mm, one)), false},
		{of(2, 0, num(4), num(8), zero, zero, zero), true}, {of(2, 0, num(4), num(7), zero, zero, zero), false}, {of(2, 0, zero, zero, num(-4), num(8), zero), true}, {of(2, 0, zero, zero, num(-4), num(7), zero), false}, {of(2, 1, num(4), num(8), zero, zero, zero), false},
		{of(2, 0, zero, num(2), zero, num(2), num(2)), true}, {of(2, 0, zero, num(2), zero, num(2), num(-2)), true}, {of(2, 0, zero, num(2), zero, num(2), num(3)), false}, {of(2, 0, zero, num(2), zero, num(2), num(-3)), false}, {of(2, 0, zero, num(2), zero, num(2), zero), true}, {of(2, 0, num(2), num(4), num(2), num(4), num(4)), true}, {of(2, 0, num(2), num(4), num(2), num(4), num(0)), true}, {of(2, 0, num(2), num(4), num(2), num(4), num(-1)), false}, {of(2, 0, num(2), num(4), num(2), num(4), num(5)), false},
		{of(4, 2, zero, mul(num(2), mm), zero, mul(num(2), mm), mul(num(2), mm)), true}, {of(4, 2, zero, mul(num(2), mm), zero, mul(num(2), mm), add(mul(num(2), mm), one)), false}, {of(4, 2, zero, zero, zero, zero, one), false},
		{of(0, 0, one, zero, zero, zero, zero), false}, {of(0, 0, zero, one, zero, zero, zero), false}, {of(0, 0, zero, zero, one, zero, zero), false}, {of(0, 0, zero, zero, zero, one, zero), false}, {of(0, 0, zero, zero, zero, zero, one), false}, {of(5, 5, zero, zero, zero, one, zero), false},
		{of(api.MaxCount, 0, mul(all, m), mul(all, mm), minus(mul(all, m)), mul(all, mm), minus(mul(all, mm))), true},
		{of(9, 0, two(maxBits-1), two(maxBits-1), zero, zero, zero), false}, {of(9, 0, zero, zero, zero, zero, two(maxBits-1)), false}, {of(9, 0, zero, zero, zero, zero, two(8*65534)), false},
	} {
		x, e := exact.PairsOf(c.p.form())
		if c.ok != (e == api.OK) || !c.ok && (e != api.ErrExactForm || x != nil) {
			t.Errorf("line %d: %d; want %v", i, e, c.ok)
		}
		if c.ok && e == api.OK {
			c.p.holds(t, "read", x)
		}
	}
}
