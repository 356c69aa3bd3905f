package agg_test

import (
	"bytes"
	"encoding/binary"
	"math"
	"math/rand"
	"testing"

	"fathom/agg"
	"fathom/api"
	"fathom/exact"
)

func num(n uint64) []byte { return binary.BigEndian.AppendUint64(nil, n) }

func join(l ...[]byte) []byte { return bytes.Join(l, nil) }

func sized(b []byte) []byte { return append(binary.BigEndian.AppendUint16(nil, uint16(len(b))), b...) }

// moments, path, line: forms of exact, of values whose sums are all 0.
func moments(n, nans, infs uint64) []byte {
	return join(num(n), num(nans), num(infs), make([]byte, 14))
}

func path(n, odd uint64, first, last api.Point) []byte {
	b := join(num(n), num(odd))
	if n == 0 {
		return b
	}
	for _, p := range []api.Point{first, last} {
		b = join(b, num(uint64(p.T)^1<<63), num(p.V))
	}
	return join(b, make([]byte, 9))
}

func line(n, odd uint64) []byte { return join(num(n), num(odd), make([]byte, 3+2+3+3)) }

func reach(least, greatest uint64) []byte { return join([]byte{1}, num(least), num(greatest)) }

func form(moments, path, line, reach []byte) []byte {
	return join(sized(moments), sized(path), sized(line), reach)
}

// crowd tells the bytes of so many noughts.
func crowd(n uint64) []byte {
	return form(moments(n, 0, 0), path(n, 0, at(0, 0), at(1<<60, 0)), line(n, 0), reach(0, 0))
}

func readable(t *testing.T, b []byte) *agg.State {
	t.Helper()
	s, e := agg.StateOf(b)
	if e != api.OK {
		t.Fatalf("StateOf: %d", e)
	}
	return s
}

func refused(t *testing.T, what string, b []byte) {
	t.Helper()
	if s, e := agg.StateOf(b); s != nil || e != api.ErrAggForm {
		t.Errorf("%s: %v, %d", what, s, e)
	}
}

// TestForm: the three rows of exact, and the reach.
func TestForm(t *testing.T) {
	r := rand.New(rand.NewSource(183))
	for range 200 {
		l := row(r, r.Intn(6), odd)
		m, p, n := &exact.Moments{}, &exact.Path{}, &exact.Line{}
		for _, x := range l {
			m.Add(x.V)
			p.Add(x)
			n.Add(x)
		}
		ends := []byte{0}
		if least := want(l, api.AggLeast); least.some && !nan(least.v) {
			ends = reach(least.v, want(l, api.AggGreatest).v)
		}
		b := stateOf(t, l...).Bytes()
		is(t, "Bytes", string(b), string(form(m.Bytes(), p.Bytes(), n.Bytes(), ends)))
		s := readable(t, b)
		is(t, "again", string(s.Bytes()), string(b))
		for kind := api.AggCount; kind <= api.AggSlope; kind++ {
			is(t, "Value", value(s, kind), want(l, kind))
		}
	}
}

// TestGoesOn: a state that was read goes on as the one that was laid.
func TestGoesOn(t *testing.T) {
	l := []api.Point{at(1, 3), at(4, -2), {T: 6, V: api.NaN64}, at(9, 8)}
	s := readable(t, stateOf(t, l[:2]...).Bytes())
	is(t, "Add", s.Add(l[1]), api.ErrAggOrder)
	is(t, "Join", s.Join(readable(t, stateOf(t, l[2:]...).Bytes())), api.OK)
	is(t, "all", string(s.Bytes()), string(stateOf(t, l...).Bytes()))
}

func TestRefused(t *testing.T) {
	none := form(moments(0, 0, 0), path(0, 0, api.Point{}, api.Point{}), line(0, 0), []byte{0})
	is(t, "none", string((&agg.State{}).Bytes()), string(none))
	readable(t, none)
	refused(t, "no bytes", nil)
	refused(t, "none, with a reach", form(moments(0, 0, 0), path(0, 0, api.Point{}, api.Point{}), line(0, 0), reach(0, 0)))

	a, b := at(1, 2), at(9, -3)
	m, p, n := &exact.Moments{}, &exact.Path{}, &exact.Line{}
	for _, x := range []api.Point{a, b} {
		m.Add(x.V)
		p.Add(x)
		n.Add(x)
	}
	two := func(ends []byte) []byte { return form(m.Bytes(), p.Bytes(), n.Bytes(), ends) }
	readable(t, two(reach(f(-3), f(2))))
	readable(t, two(reach(f(-7), f(math.Inf(1)))))
	for what, ends := range map[string][]byte{
		"no reach": {0}, "no byte": {}, "a 2": join([]byte{2}, num(f(-3)), num(f(2))), "a byte more": append(reach(f(-3), f(2)), 0),
		"half a reach": reach(f(-3), f(2))[:12], "turned": reach(f(2), f(-3)), "a NaN below": reach(api.NaN64|api.Neg64, f(2)),
		"a NaN above": reach(f(-3), api.NaN64), "the first above": reach(f(-3), f(1)), "the last below": reach(f(-2), f(2)),
	} {
		refused(t, what, two(ends))
	}
	small := &exact.Moments{}
	small.Add(f(2))
	refused(t, "fewer values", form(small.Bytes(), p.Bytes(), n.Bytes(), reach(f(-3), f(2))))
	short := &exact.Line{}
	short.Add(a)
	refused(t, "fewer of the line", form(m.Bytes(), p.Bytes(), short.Bytes(), reach(f(-3), f(2))))
	one := &exact.Path{}
	one.Add(a)
	refused(t, "fewer of the path", form(m.Bytes(), one.Bytes(), n.Bytes(), reach(f(-3), f(2))))
	refused(t, "no moments", form(nil, p.Bytes(), n.Bytes(), reach(f(-3), f(2))))
	refused(t, "no path", form(m.Bytes(), nil, n.Bytes(), reach(f(-3), f(2))))
	refused(t, "no line", form(m.Bytes(), p.Bytes(), nil, reach(f(-3), f(2))))
}

// TestOne: the one point's value lies in the reach, be it the first or the last one.
func TestOne(t *testing.T) {
	one := func(ends []byte) []byte {
		return form(moments(1, 0, 0), path(1, 0, at(3, 0), at(3, 0)), lineOf(t, at(3, 0)), ends)
	}
	is(t, "Bytes", string(stateOf(t, at(3, 0)).Bytes()), string(one(reach(0, 0))))
	readable(t, one(reach(minus(), 0)))
	refused(t, "below", one(reach(1, 1)))
	refused(t, "above", one(reach(minus(), minus())))
}

// TestBetween: where the first and the last value are NaNs, the reach is that of what stands between.
func TestBetween(t *testing.T) {
	ends := []api.Point{{T: 1, V: api.NaN64}, {T: 9, V: api.NaN64 | 1}}
	s := stateOf(t, ends[0], at(4, 0), ends[1])
	with := func(ends2 []byte) []byte {
		return form(moments(3, 2, 0), path(3, 2, ends[0], ends[1]), mixed(t), ends2)
	}
	is(t, "Bytes", string(s.Bytes()), string(with(reach(0, 0))))
	readable(t, with(reach(f(-3), f(2))))
	refused(t, "turned", with(reach(f(2), f(-3))))
	refused(t, "noughts turned", with(reach(0, minus())))
	refused(t, "no reach", with([]byte{0}))
}

// mixed tells the form of a line of a nought at 4, and two that are not finite.
func mixed(t *testing.T) []byte {
	t.Helper()
	return lineOf(t, api.Point{T: 1, V: api.NaN64}, at(4, 0), api.Point{T: 9, V: api.NaN64})
}

func lineOf(t *testing.T, l ...api.Point) []byte {
	t.Helper()
	n := &exact.Line{}
	for _, p := range l {
		is(t, "Add", n.Add(p), api.OK)
	}
	return n.Bytes()
}

// TestNotFinite: the three rows must count the same of them, and a reach stands just if a value counts.
func TestNotFinite(t *testing.T) {
	x, y := api.Point{T: 1, V: api.NaN64}, api.Point{T: 5, V: api.Inf64}
	good := form(moments(2, 1, 1), path(2, 2, x, y), line(2, 2), reach(api.Inf64, api.Inf64))
	is(t, "of both", string(stateOf(t, x, y).Bytes()), string(good))
	readable(t, good)
	refused(t, "fewer in the first", form(moments(2, 1, 0), path(2, 2, x, y), line(2, 2), reach(0, api.Inf64)))
	refused(t, "fewer in the third", form(moments(2, 1, 1), path(2, 2, x, y), line(2, 1), reach(api.Inf64, api.Inf64)))
	refused(t, "more in the third", form(moments(2, 1, 0), path(2, 1, x, at(5, 0)), line(2, 2), reach(0, 0)))
	refused(t, "fewer in the second", form(moments(2, 1, 1), path(2, 1, x, at(5, 0)), line(2, 2), reach(0, api.Inf64)))
	refused(t, "an infinity without a reach", form(moments(2, 1, 1), path(2, 2, x, y), line(2, 2), []byte{0}))
	nans := form(moments(2, 2, 0), path(2, 2, x, api.Point{T: 5, V: api.NaN64 | 7}), line(2, 2), []byte{0})
	readable(t, nans)
	refused(t, "NaNs with a reach", form(moments(2, 2, 0), path(2, 2, x, api.Point{T: 5, V: api.NaN64 | 7}), line(2, 2), reach(0, 0)))
	for _, ends := range [][]byte{{}, {0, 0}, {1}, {2}, {0xff}, make([]byte, 17)} {
		refused(t, "NaNs, and bytes that are no reach", form(moments(2, 2, 0), path(2, 2, x, api.Point{T: 5, V: api.NaN64 | 7}), line(2, 2), ends))
		refused(t, "no points, and bytes that are no reach", form(moments(0, 0, 0), path(0, 0, x, x), line(0, 0), ends))
	}
	refused(t, "noughts apart", form(moments(2, 0, 0), path(2, 0, at(1, 0), api.Point{T: 5, V: minus()}), line(2, 0), reach(0, 0)))
}

// TestAnyBytes: beginnings and what is longer are refused; of a changed byte what is taken is told again.
func TestAnyBytes(t *testing.T) {
	b := stateOf(t, at(-4, 3), api.Point{T: 2, V: api.NaN64}, at(77, -0.125)).Bytes()
	for i := range b {
		refused(t, "a beginning", b[:i])
		for bit := range 8 {
			c := bytes.Clone(b)
			c[i] ^= 1 << bit
			s, e := agg.StateOf(c)
			if e == api.OK {
				is(t, "told again", string(s.Bytes()), string(c))
			} else if s != nil || e != api.ErrAggForm {
				t.Errorf("%v, %d", s, e)
			}
		}
	}
	refused(t, "a byte more", append(bytes.Clone(b), 0))
	r := rand.New(rand.NewSource(9))
	for range 500 {
		c := make([]byte, r.Intn(200))
		r.Read(c)
		refused(t, "noise", c)
	}
}
