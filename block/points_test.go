package block_test

import (
	"math"
	"math/rand"

	"fathom/api"
)

func kinds() []int { return []int{api.KindWide, api.KindNarrow} }

// edgeValues are patterns of all sorts that a block of the kind may have.
func edgeValues(kind int) []uint64 {
	if kind == api.KindNarrow {
		l := []uint64{}
		for _, v := range []uint32{0, 1, 2, 0x7fffff, 0x800000, 0x3f800000, 0x3f800001, 0x3dcccccd, 0x40490fdb, 0x7f7fffff, 0x7f800000, 0x7fc00000, 0x7fc00001, 0x7fe00005, 0x7fffffff} {
			l = append(l, thick(v), thick(v|1<<31))
		}
		return l
	}
	l := []uint64{}
	for _, v := range []uint64{0, 1, 2, 0xfffffffffffff, 0x10000000000000, 0x3ff0000000000000, 0x3ff8000000000000, 0x3ff0000000000001, 0x3fb999999999999a, 0x400921fb54442d18, 0x7fefffffffffffff, 0x7ff0000000000000, 0x7ff0000000000001, 0x7ff0000020000000, 0x7ff7ffffffffffff, 0x7ff8000000000000, 0x7ff8000000000001, 0x7fffffffffffffff} {
		l = append(l, v, v|1<<63)
	}
	return l
}

// allowed tells a pattern that a block of the kind may have.
func allowed(kind int, v uint64) uint64 {
	if kind == api.KindNarrow {
		return thick(thin(v))
	}
	return v
}

// anyValues tells n values of one sort.
func anyValues(rnd *rand.Rand, kind, n int) []uint64 {
	edges := edgeValues(kind)
	sort, few, k := rnd.Intn(9), 1+rnd.Intn(5), rnd.Int63n(100000)
	v, step := rnd.Uint64(), rnd.Uint64()
	l := []uint64{}
	for range n {
		switch sort {
		case 0:
			v = rnd.Uint64()
		case 1:
			v = edges[rnd.Intn(len(edges))]
		case 2:
			v = edges[rnd.Intn(few)*7]
		case 3:
			k += rnd.Int63n(201) - 100
			v = math.Float64bits(float64(k) / 100)
		case 4:
			v = math.Float64bits(rnd.NormFloat64())
		case 5:
			v += step
		case 6:
			v = []uint64{v, v, v, v, v, rnd.Uint64()}[rnd.Intn(6)]
		case 7:
			v = 0x7ff0000000000000 | rnd.Uint64()>>rnd.Intn(64) | 1<<29 | uint64(rnd.Intn(2))<<63
		case 8:
			v = []uint64{0, 1 << 63}[rnd.Intn(2)]
		}
		l = append(l, allowed(kind, v))
	}
	return l
}

// anyTimes tells n times that rise.
func anyTimes(rnd *rand.Rand, n int) []int64 {
	sort, step := rnd.Intn(4), 1+rnd.Int63n(100000)
	at := rnd.Int63n(1<<40) - 1<<39
	switch rnd.Intn(4) {
	case 0:
		at = math.MinInt64
	case 1:
		at = math.MaxInt64 - int64(n)*1<<21
	}
	l := []int64{}
	for range n {
		l = append(l, at)
		switch sort {
		case 0:
			at += 1
		case 1:
			at += step
		case 2:
			at += step + rnd.Int63n(10)
		case 3:
			at += 1 + rnd.Int63n(1<<rnd.Intn(21))
		}
	}
	return l
}

// pointsOf puts times and values together.
func pointsOf(times []int64, values []uint64) []api.Point {
	l := make([]api.Point, len(times))
	for i := range l {
		l[i] = api.Point{T: times[i], V: values[i]}
	}
	return l
}

func anyPoints(rnd *rand.Rand, kind, n int) []api.Point {
	return pointsOf(anyTimes(rnd, n), anyValues(rnd, kind, n))
}

// samples are points of all sorts, from few to some.
func samples(kind int) [][]api.Point {
	l := [][]api.Point{}
	for _, a := range edgeValues(kind) {
		l = append(l, []api.Point{{T: 5, V: a}}, []api.Point{{T: -1, V: a}, {T: 0, V: a}, {T: 7, V: a}})
		for _, b := range edgeValues(kind) {
			l = append(l, []api.Point{{T: math.MinInt64, V: a}, {T: math.MaxInt64, V: b}})
		}
	}
	rnd := rand.New(rand.NewSource(int64(90 + kind)))
	for range 1000 {
		l = append(l, anyPoints(rnd, kind, 1+rnd.Intn(40)))
	}
	return l
}

// few are the samples of which each byte is tried.
func few(kind int) [][]api.Point {
	l := [][]api.Point{{{T: 5, V: 0x3ff8000000000000}}, {{T: -5, V: api.Neg64}, {T: 9, V: 0}}, {{T: 0, V: api.NaN64}}}
	rnd := rand.New(rand.NewSource(int64(95 + kind)))
	for range 40 {
		l = append(l, anyPoints(rnd, kind, 1+rnd.Intn(12)))
	}
	return l
}

// filled are n points with the same distance and value.
func filled(n int, v uint64) []api.Point {
	l := make([]api.Point, n)
	for i := range l {
		l[i] = api.Point{T: int64(i), V: v}
	}
	return l
}
