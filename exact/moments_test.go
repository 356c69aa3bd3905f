package exact_test

import (
	"math"
	"math/big"
	"math/rand"
	"slices"
	"testing"

	"fathom/api"
	"fathom/exact"
)

// moments is the model of a Moments: its state, by the chapter's words.
type moments struct {
	n, nans, ups, downs uint64
	dark                byte
	s, q                *big.Int // times 2^1074, 2^2148
}

func momentsOf(l []uint64) moments {
	m := moments{s: num(0), q: num(0)}
	dark := 0
	for _, v := range l {
		m.n++
		switch {
		case isNaN(v):
			m.nans++
		case v == api.Inf64:
			m.ups++
		case v == api.Inf64|api.Neg64:
			m.downs++
		default:
			x := units(v)
			m.s, m.q = add(m.s, x), add(m.q, mul(x, x))
		}
		if v == api.Neg64 {
			dark++
		}
	}
	if len(l) > 0 && dark == len(l) {
		m.dark = 1
	}
	return m
}

// times tells the state of every value so often.
func (m moments) times(k uint64) moments {
	by := new(big.Int).SetUint64(k)
	return moments{n: m.n * k, nans: m.nans * k, ups: m.ups * k, downs: m.downs * k, dark: m.dark, s: mul(m.s, by), q: mul(m.q, by)}
}

func (m moments) form() []byte {
	b := slices.Concat(numForm(m.n, 8), numForm(m.nans, 8), numForm(m.ups, 8), numForm(m.downs, 8), []byte{m.dark})
	return slices.Concat(b, numberForm(m.s), sizeForm(m.q))
}

// share is Sum, or Mean, of S divided by that.
func (m moments) share(by uint64) told {
	switch {
	case m.n == 0:
		return told{}
	case m.nans > 0 || m.ups > 0 && m.downs > 0:
		return told{api.NaN64, true}
	case m.ups > 0:
		return told{api.Inf64, true}
	case m.downs > 0:
		return told{api.Inf64 | api.Neg64, true}
	case m.dark == 1:
		return told{api.Neg64, true}
	}
	return told{nearest(ratio(m.s, new(big.Int).SetUint64(by), -1074)), true}
}

// variance tells (n Q - S S) / (n by), of finite values.
func (m moments) variance(by uint64) *big.Rat {
	n := new(big.Int).SetUint64(m.n)
	return ratio(sub(mul(n, m.q), mul(m.s, m.s)), mul(n, new(big.Int).SetUint64(by)), -2148)
}

// holds fails unless a Moments tells what the model does.
func (m moments) holds(t *testing.T, what string, x *exact.Moments) {
	t.Helper()
	same(t, what+": Count", x.Count(), m.n)
	same(t, what+": Nans", x.Nans(), m.nans)
	same(t, what+": Sum", tell(x.Sum()), m.share(1))
	same(t, what+": Mean", tell(x.Mean()), m.share(m.n))
	variance, sample := told{}, told{}
	finite := m.nans+m.ups+m.downs == 0
	switch {
	case m.n > 0 && !finite:
		variance = told{api.NaN64, true}
		same(t, what+": Dev", tell(x.Dev()), variance)
	case m.n > 0:
		variance = told{nearest(m.variance(m.n)), true}
		if d, ok := x.Dev(); !ok || !isRoot(d, m.variance(m.n)) {
			t.Fatalf("%s: Dev: %x, %v", what, d, ok)
		}
	default:
		same(t, what+": Dev", tell(x.Dev()), told{})
	}
	switch {
	case m.n > 1 && !finite:
		sample = told{api.NaN64, true}
	case m.n > 1:
		sample = told{nearest(m.variance(m.n - 1)), true}
	}
	same(t, what+": Var", tell(x.Var()), variance)
	same(t, what+": Sample", tell(x.Sample()), sample)
	if b := x.Bytes(); !slices.Equal(b, m.form()) {
		t.Fatalf("%s: Bytes: %x; want %x", what, b, m.form())
	}
}

// gathered tells a Moments of values.
func gathered(t *testing.T, l []uint64) *exact.Moments {
	t.Helper()
	m := &exact.Moments{}
	for _, v := range l {
		same(t, "Add", m.Add(v), api.OK)
	}
	return m
}

// P4.4, P4.5, P4.6, P4.12: any values tell what the chapter says, in any order and grouping.
func TestMoments(t *testing.T) {
	r := rand.New(rand.NewSource(47))
	for i := range 6000 {
		l := someValues(r, i%9)
		model := momentsOf(l)
		model.holds(t, "added", gathered(t, l))
		model.holds(t, "merged", merged(t, r, l, gathered))
		x, e := exact.MomentsOf(model.form())
		same(t, "MomentsOf", e, api.OK)
		model.holds(t, "read", x)
	}
	for _, v := range edges() {
		for _, w := range edges() {
			l := []uint64{v, w, v}
			momentsOf(l).holds(t, "edges", gathered(t, l))
		}
		momentsOf([]uint64{v}).holds(t, "one", gathered(t, []uint64{v}))
	}
}

// P4.12: a long row that goes up and down, all of it merged and taken back.
func TestMomentsOfMany(t *testing.T) {
	r := rand.New(rand.NewSource(48))
	l := []uint64{}
	for range 3000 {
		v := r.Uint64()
		if isFinite(v) {
			l = append(l, v, v^api.Neg64)
		}
	}
	l = append(l, f(1))
	momentsOf(l).holds(t, "many", merged(t, r, l, gathered))
	if s, _ := gathered(t, l).Sum(); s != f(1) {
		t.Errorf("Sum: %x", s)
	}
}

// P4.12: the mean lies between the least and the greatest; variances are not below +0; of one number the mean is it.
func TestMomentsBounds(t *testing.T) {
	r := rand.New(rand.NewSource(49))
	for range 4000 {
		l := someValues(r, 1+r.Intn(6))
		if slices.ContainsFunc(l, func(v uint64) bool { return !isFinite(v) }) {
			continue
		}
		least, most := math.Inf(1), math.Inf(-1)
		for _, v := range l {
			least, most = min(least, math.Float64frombits(v)), max(most, math.Float64frombits(v))
		}
		m := gathered(t, l)
		mean, _ := m.Mean()
		x := math.Float64frombits(mean)
		if x < least || x > most || least == most && x != least {
			t.Fatalf("%v to %v: the mean %v", least, most, x)
		}
		v, _ := m.Var()
		d, _ := m.Dev()
		if v&api.Neg64 != 0 || d&api.Neg64 != 0 || least == most && (v != 0 || d != 0) {
			t.Fatalf("Var %x, Dev %x", v, d)
		}
	}
}

// P4.5: the chapter's examples, and its special cases.
func TestMomentsExamples(t *testing.T) {
	neg0, inf, big := uint64(api.Neg64), uint64(api.Inf64), uint64(api.Inf64-1)
	for i, c := range []struct {
		l   []uint64
		sum uint64
	}{
		{[]uint64{f(0x1p60), f(1), f(-0x1p60)}, f(1)}, {[]uint64{f(1), f(0x1p60), f(-0x1p60)}, f(1)}, {[]uint64{big, big, big | neg0}, big}, {[]uint64{big, big}, inf}, {[]uint64{neg0, neg0}, neg0}, {[]uint64{neg0, 0}, 0}, {[]uint64{0, neg0}, 0}, {[]uint64{f(1), f(-1), neg0}, 0}, {[]uint64{neg0, f(1), f(-1)}, 0},
		{[]uint64{inf, f(1)}, inf}, {[]uint64{inf | neg0, big}, inf | neg0}, {[]uint64{inf, inf | neg0}, api.NaN64}, {[]uint64{inf, 0xfff0000000000001}, api.NaN64}, {[]uint64{neg0, 0x7ff8000000000007}, api.NaN64}, {[]uint64{inf, neg0}, inf}, {[]uint64{1, 1 | neg0}, 0}, {[]uint64{1 | neg0}, 1 | neg0},
	} {
		if s, ok := gathered(t, c.l).Sum(); s != c.sum || !ok {
			t.Errorf("line %d: %x, %v; want %x", i, s, ok, c.sum)
		}
	}
	m := gathered(t, []uint64{f(1), f(2), f(3), f(4)})
	same(t, "Mean", tell(m.Mean()), told{f(2.5), true})
	same(t, "Var", tell(m.Var()), told{f(1.25), true})
	same(t, "Sample", tell(m.Sample()), told{0x3ffaaaaaaaaaaaab, true})
	same(t, "Dev", tell(m.Dev()), told{0x3ff1e3779b97f4a8, true})
	m = gathered(t, []uint64{neg0, neg0})
	same(t, "the mean of -0", tell(m.Mean()), told{neg0, true})
	m = gathered(t, []uint64{1 | neg0, 0}) // it rounds to nought, and is below it
	same(t, "a mean below nought", tell(m.Mean()), told{neg0, true})
	m = gathered(t, []uint64{inf})
	same(t, "Sample of one", tell(m.Sample()), told{})
	same(t, "Var of Inf", tell(m.Var()), told{api.NaN64, true})
	m = gathered(t, []uint64{big, big | neg0})
	same(t, "a variance beyond", tell(m.Var()), told{inf, true})
	same(t, "its root", tell(m.Dev()), told{big, true})
	if b := (&exact.Moments{}).Bytes(); !slices.Equal(b, make([]byte, 38)) {
		t.Errorf("a state without values: %x", b)
	}
}

// P4.4: MaxCount values at most; a Merge with itself doubles; with an error nothing has changed.
func TestMomentsFull(t *testing.T) {
	for _, l := range [][]uint64{{f(1.5)}, {api.Inf64 - 1}, {api.Neg64 | api.Inf64 - 1}, {api.Neg64}, {1}, {api.NaN64}, {api.Inf64}, {api.Inf64 | api.Neg64}, {f(1), f(-3)}} {
		filled[*exact.Moments]{gathered(t, l), exact.MomentsOf, func(x *exact.Moments) api.Errno { return x.Add(f(7)) }, func(what string, x *exact.Moments, times uint64) {
			t.Helper()
			momentsOf(l).times(times).holds(t, what, x)
		}}.fills(t, &exact.Moments{})
	}
}

// P4.13: a Merge with nothing changes nothing, dark or not; the other one stays.
func TestMomentsMergeNothing(t *testing.T) {
	for _, l := range [][]uint64{nil, {api.Neg64}, {f(1), api.NaN64}} {
		m, o := gathered(t, l), gathered(t, l)
		same(t, "nil", m.Merge(nil), api.OK)
		same(t, "none", m.Merge(&exact.Moments{}), api.OK)
		momentsOf(l).holds(t, "with nothing", m)
		x := &exact.Moments{}
		same(t, "into none", x.Merge(o), api.OK)
		momentsOf(l).holds(t, "into none", x)
		x.Add(f(5))
		momentsOf(l).holds(t, "the other one", o)
	}
}

// P4.6: what is no state's form, and what is just one.
func TestMomentsOf(t *testing.T) {
	m, mm := greatest(), mul(greatest(), greatest())
	max2 := new(big.Int).SetUint64(api.MaxCount)
	zero, one := num(0), num(1)
	for i, c := range []struct {
		m  moments
		ok bool
	}{
		{moments{s: zero, q: zero}, true},
		{moments{n: api.MaxCount, s: zero, q: zero}, true}, {moments{n: api.MaxCount + 1, s: zero, q: zero}, false}, {moments{n: math.MaxUint64, s: zero, q: zero}, false},
		{moments{n: 3, nans: 1, ups: 1, downs: 1, s: zero, q: zero}, true}, {moments{n: 2, nans: 1, ups: 1, downs: 1, s: zero, q: zero}, false}, {moments{nans: 1, s: zero, q: zero}, false}, {moments{ups: 1, s: zero, q: zero}, false}, {moments{downs: 1, s: zero, q: zero}, false},
		{moments{n: 3, nans: 1 << 63, ups: 1 << 63, downs: 1, s: zero, q: zero}, false}, {moments{n: 3, nans: 2, ups: math.MaxUint64, downs: 2, s: zero, q: zero}, false}, {moments{n: 3, nans: 2, ups: 2, downs: math.MaxUint64, s: zero, q: zero}, false},
		{moments{n: 1, dark: 1, s: zero, q: zero}, true}, {moments{n: api.MaxCount, dark: 1, s: zero, q: zero}, true}, {moments{dark: 1, s: zero, q: zero}, false}, {moments{n: 2, nans: 1, dark: 1, s: zero, q: zero}, false}, {moments{n: 2, ups: 1, dark: 1, s: zero, q: zero}, false}, {moments{n: 2, downs: 1, dark: 1, s: zero, q: zero}, false}, {moments{n: 2, dark: 1, s: one, q: one}, false}, {moments{n: 2, dark: 1, s: zero, q: one}, false}, {moments{n: 1, dark: 2, s: zero, q: zero}, false}, {moments{n: 1, dark: 255, s: zero, q: zero}, false},
		{moments{n: 1, s: m, q: mm}, true}, {moments{n: 1, s: num(-5), q: num(25)}, true}, {moments{n: 1, s: num(-5), q: num(24)}, false}, {moments{n: 1, s: num(5), q: num(26)}, true}, {moments{n: 2, s: num(4), q: num(8)}, true}, {moments{n: 2, s: num(4), q: num(7)}, false}, {moments{n: 2, s: one, q: zero}, false}, {moments{n: 2, s: zero, q: one}, true},
		{moments{n: 1, s: add(m, one), q: mm}, false}, {moments{n: 1, s: m, q: add(mm, one)}, false}, {moments{n: 1, s: zero, q: add(mm, one)}, false}, {moments{n: 2, nans: 1, s: m, q: mm}, true}, {moments{n: 2, nans: 1, s: add(m, m), q: mul(mm, num(2))}, false}, {moments{n: 2, nans: 1, s: zero, q: add(mm, one)}, false}, {moments{n: 2, ups: 1, downs: 1, s: zero, q: one}, false}, {moments{n: 2, ups: 1, s: zero, q: add(mm, one)}, false}, {moments{n: 2, downs: 1, s: zero, q: add(mm, one)}, false},
		{moments{s: one, q: zero}, false}, {moments{s: zero, q: one}, false},
		{moments{n: api.MaxCount, s: mul(max2, m), q: mul(max2, mm)}, true}, {moments{n: api.MaxCount, s: new(big.Int).Neg(mul(max2, m)), q: mul(max2, mm)}, true}, {moments{n: api.MaxCount, s: add(mul(max2, m), one), q: mul(max2, mm)}, false}, {moments{n: api.MaxCount, s: mul(max2, m), q: add(mul(max2, mm), one)}, false}, {moments{n: api.MaxCount, s: mul(max2, m), q: sub(mul(max2, mm), one)}, false},
		{moments{n: api.MaxCount, s: two(8 * 65534), q: zero}, false}, {moments{n: api.MaxCount, s: zero, q: two(8 * 65534)}, false}, {moments{n: api.MaxCount, s: two(maxBits - 1), q: two(maxBits - 1)}, false},
	} {
		x, e := exact.MomentsOf(c.m.form())
		if c.ok != (e == api.OK) || !c.ok && (e != api.ErrExactForm || x != nil) {
			t.Errorf("line %d: %d; want %v", i, e, c.ok)
		}
		if c.ok && e == api.OK {
			c.m.holds(t, "read", x)
		}
	}
}
