package exact_test

import (
	"math"
	"math/rand"
	"testing"

	"fathom/api"
	"fathom/exact"
)

// slopeOf is P4.2's Slope of rising points.
func slopeOf(p, q api.Point) uint64 {
	if !isFinite(p.V) || !isFinite(q.V) {
		return api.NaN64
	}
	return nearest(ratio(sub(units(q.V), units(p.V)), sub(num(q.T), num(p.T)), -1074))
}

// betweenOf is P4.3's Between of rising points, at a time that is between them.
func betweenOf(p, q api.Point, t int64) uint64 {
	switch {
	case t == p.T:
		return p.V
	case t == q.T:
		return q.V
	case !isFinite(p.V) || !isFinite(q.V):
		return api.NaN64
	}
	step := ratio(mul(sub(units(q.V), units(p.V)), sub(num(t), num(p.T))), sub(num(q.T), num(p.T)), -1074)
	return nearest(step.Add(step, ratio(units(p.V), num(1), -1074)))
}

// P4.2, P4.3: any two points, and any time.
func TestSlopeAndBetween(t *testing.T) {
	r := rand.New(rand.NewSource(45))
	for range 30000 {
		p, q, at := api.Point{T: anyTime(r), V: anyValue(r)}, api.Point{T: anyTime(r), V: anyValue(r)}, anyTime(r)
		if r.Intn(8) == 0 {
			q.V = p.V
		}
		rises := p.T < q.T
		want, wantE := uint64(0), api.ErrExactTime
		if rises {
			want, wantE = slopeOf(p, q), api.OK
		}
		if s, e := exact.Slope(p, q); s != want || e != wantE {
			t.Fatalf("Slope(%x, %x): %x, %d; want %x, %d", p, q, s, e, want, wantE)
		}
		for _, at := range []int64{at, p.T, q.T, p.T/2 + q.T/2} {
			want, wantE := uint64(0), api.ErrExactTime
			if rises && p.T <= at && at <= q.T {
				want, wantE = betweenOf(p, q, at), api.OK
			}
			if v, e := exact.Between(p, q, at); v != want || e != wantE {
				t.Fatalf("Between(%x, %x, %d): %x, %d; want %x, %d", p, q, at, v, e, want, wantE)
			}
		}
	}
}

// P4.2, P4.3: the edges that the chapter names.
func TestSlopeAndBetweenEdges(t *testing.T) {
	const least, most = math.MinInt64, math.MaxInt64
	neg0, nan, big := uint64(api.Neg64), uint64(0xfff0000000000001), uint64(api.Inf64-1)
	for i, c := range []struct {
		p, q api.Point
		want uint64
		e    api.Errno
	}{
		{api.Point{T: 0, V: f(1)}, api.Point{T: 10, V: f(3)}, 0x3fc999999999999a, api.OK},
		{api.Point{T: 5, V: f(1)}, api.Point{T: 5, V: f(1)}, 0, api.ErrExactTime}, {api.Point{T: 5, V: nan}, api.Point{T: 4, V: f(1)}, 0, api.ErrExactTime}, {api.Point{T: most, V: 0}, api.Point{T: least, V: 0}, 0, api.ErrExactTime},
		{api.Point{T: 0, V: nan}, api.Point{T: 1, V: f(1)}, api.NaN64, api.OK}, {api.Point{T: 0, V: f(1)}, api.Point{T: 1, V: api.Inf64}, api.NaN64, api.OK}, {api.Point{T: 0, V: api.Inf64}, api.Point{T: 1, V: api.Inf64}, api.NaN64, api.OK},
		{api.Point{T: 0, V: neg0}, api.Point{T: 1, V: neg0}, 0, api.OK}, {api.Point{T: 0, V: f(3)}, api.Point{T: 1, V: f(3)}, 0, api.OK}, {api.Point{T: 0, V: 0}, api.Point{T: 1, V: neg0}, 0, api.OK},
		{api.Point{T: 0, V: big | neg0}, api.Point{T: 1, V: big}, api.Inf64, api.OK}, {api.Point{T: 0, V: big | neg0}, api.Point{T: 2, V: big}, big, api.OK}, {api.Point{T: 0, V: big}, api.Point{T: 1, V: big | neg0}, api.Inf64 | neg0, api.OK},
		{api.Point{T: 0, V: 1}, api.Point{T: 2, V: 0}, neg0, api.OK}, {api.Point{T: 0, V: 0}, api.Point{T: 2, V: 3}, 2, api.OK}, {api.Point{T: least, V: 0}, api.Point{T: most, V: f(0x1p64)}, f(1), api.OK},
	} {
		if s, e := exact.Slope(c.p, c.q); s != c.want || e != c.e {
			t.Errorf("line %d: %x, %d; want %x, %d", i, s, e, c.want, c.e)
		}
	}
	for i, c := range []struct {
		p, q api.Point
		t    int64
		want uint64
		e    api.Errno
	}{
		{api.Point{T: 0, V: f(1)}, api.Point{T: 10, V: f(3)}, 5, f(2), api.OK}, {api.Point{T: 0, V: f(1)}, api.Point{T: 10, V: f(3)}, 11, 0, api.ErrExactTime}, {api.Point{T: 0, V: f(1)}, api.Point{T: 10, V: f(3)}, -1, 0, api.ErrExactTime}, {api.Point{T: 3, V: f(1)}, api.Point{T: 3, V: f(1)}, 3, 0, api.ErrExactTime},
		{api.Point{T: 0, V: nan}, api.Point{T: 2, V: f(1)}, 0, nan, api.OK}, {api.Point{T: 0, V: f(1)}, api.Point{T: 2, V: nan}, 2, nan, api.OK}, {api.Point{T: 0, V: nan}, api.Point{T: 2, V: f(1)}, 2, f(1), api.OK}, {api.Point{T: 0, V: nan}, api.Point{T: 2, V: f(1)}, 1, api.NaN64, api.OK}, {api.Point{T: 0, V: f(1)}, api.Point{T: 2, V: api.Inf64}, 1, api.NaN64, api.OK}, {api.Point{T: 0, V: api.Inf64}, api.Point{T: 2, V: api.Inf64}, 1, api.NaN64, api.OK},
		{api.Point{T: 0, V: neg0}, api.Point{T: 2, V: neg0}, 0, neg0, api.OK}, {api.Point{T: 0, V: neg0}, api.Point{T: 2, V: neg0}, 1, 0, api.OK}, {api.Point{T: 0, V: f(-1)}, api.Point{T: 2, V: f(1)}, 1, 0, api.OK}, {api.Point{T: 0, V: neg0}, api.Point{T: 2, V: 1 | neg0}, 1, neg0, api.OK},
		{api.Point{T: least, V: big | neg0}, api.Point{T: most, V: big}, 0, f(0x1.fffffffffffffp959), api.OK}, {api.Point{T: 0, V: big}, api.Point{T: 2, V: big}, 1, big, api.OK},
	} {
		if v, e := exact.Between(c.p, c.q, c.t); v != c.want || e != c.e {
			t.Errorf("line %d: %x, %d; want %x, %d", i, v, e, c.want, c.e)
		}
	}
}

// P4.3: a value between lies between both.
func TestBetweenStaysBetween(t *testing.T) {
	r := rand.New(rand.NewSource(46))
	for range 10000 {
		times, values := risingTimes(r, 3), []uint64{anyValue(r), anyValue(r)}
		if !isFinite(values[0]) || !isFinite(values[1]) {
			continue
		}
		v, _ := exact.Between(api.Point{T: times[0], V: values[0]}, api.Point{T: times[2], V: values[1]}, times[1])
		x, y, m := math.Float64frombits(values[0]), math.Float64frombits(values[1]), math.Float64frombits(v)
		if m < min(x, y) || m > max(x, y) {
			t.Fatalf("between %v and %v: %v", x, y, m)
		}
	}
}
