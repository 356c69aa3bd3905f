package exact_test

import (
	"math"
	"math/rand"
	"slices"
	"testing"

	"fathom/api"
	"fathom/exact"
)

// reader reads one kind of states; nil beside an error is no state.
type reader struct {
	name string
	of   func(b []byte) (state, api.Errno)
	none state
	some []state
}

// stateOr tells a state, or none: a nil pointer in an interface would be one.
func stateOr[T state](x T, e api.Errno, isNil bool) (state, api.Errno) {
	if isNil {
		return nil, e
	}
	return x, e
}

func readers(t *testing.T) []reader {
	neg0, big := uint64(api.Neg64), uint64(api.Inf64-1)
	points := []api.Point{{T: math.MinInt64, V: f(-1.5)}, {T: -3, V: big}, {T: 0, V: neg0}, {T: 9, V: 1}, {T: math.MaxInt64, V: f(0.1)}}
	odd := []api.Point{{T: 1, V: f(1)}, {T: 2, V: api.NaN64 + 5}, {T: 3, V: api.Inf64}}
	return []reader{
		{"Moments", func(b []byte) (state, api.Errno) {
			x, e := exact.MomentsOf(b)
			return stateOr(x, e, x == nil)
		}, &exact.Moments{}, []state{gathered(t, []uint64{f(1), f(-2.5), 1, big | neg0}), gathered(t, []uint64{neg0, neg0}), gathered(t, []uint64{f(-300), api.NaN64, api.Inf64, api.Inf64 | neg0})}},
		{"Line", func(b []byte) (state, api.Errno) {
			x, e := exact.LineOf(b)
			return stateOr(x, e, x == nil)
		}, &exact.Line{}, []state{lined(t, points), lined(t, odd)}},
		{"Pairs", func(b []byte) (state, api.Errno) {
			x, e := exact.PairsOf(b)
			return stateOr(x, e, x == nil)
		}, &exact.Pairs{}, []state{paired(t, [][2]uint64{{f(1), f(-2)}, {big, 1}, {neg0, f(3)}}), paired(t, [][2]uint64{{f(1), api.NaN64}, {f(2), f(2)}})}},
		{"Path", func(b []byte) (state, api.Errno) {
			x, e := exact.PathOf(b)
			return stateOr(x, e, x == nil)
		}, &exact.Path{}, []state{walked(t, points), walked(t, odd), walked(t, points[:1])}},
	}
}

// refuses fails unless bytes are no state's.
func refuses(t *testing.T, k reader, b []byte, what string) {
	t.Helper()
	if x, e := k.of(b); x != nil || e != api.ErrExactForm {
		t.Fatalf("%s: %s: %v, %d", k.name, what, x, e)
	}
}

// P4.6, P4.8, P4.11, P4.15: bytes that are cut, or have something behind them, are no form.
func TestFormsThatAreCut(t *testing.T) {
	for _, k := range readers(t) {
		for _, x := range append(k.some, k.none) {
			b := x.Bytes()
			for n := range len(b) {
				refuses(t, k, b[:n:n], "cut")
				refuses(t, k, b[:n], "cut, with what is gone behind it")
			}
			refuses(t, k, append(slices.Clone(b), 0), "a nought behind it")
			refuses(t, k, append(slices.Clone(b), b...), "twice")
		}
		refuses(t, k, nil, "nothing")
		refuses(t, k, []byte{}, "nothing")
	}
}

// P4.12: what is taken, Bytes tells again; all else is refused.
func TestFormsAreOne(t *testing.T) {
	r := rand.New(rand.NewSource(53))
	for _, k := range readers(t) {
		for _, x := range append(k.some, k.none) {
			b := x.Bytes()
			for i := range 6 * len(b) {
				c := slices.Clone(b)
				c[i%len(b)] ^= byte(1 + r.Intn(255))
				if r.Intn(4) == 0 {
					c[r.Intn(len(c))] = byte(r.Intn(3))
				}
				if y, e := k.of(c); e == api.OK && !slices.Equal(y.Bytes(), c) {
					t.Fatalf("%s: of %x it tells %x", k.name, c, y.Bytes())
				} else if e != api.OK && (e != api.ErrExactForm || y != nil) {
					t.Fatalf("%s: error %d, %v", k.name, e, y)
				}
			}
		}
	}
}

// P4.6, P4.8, P4.11, P4.15: whole numbers with a nought ahead, signs that are none, a sign of nought.
func TestFormsOfNumbers(t *testing.T) {
	at := func(n int) []byte { return numForm(uint64(n), 8) }
	head := slices.Concat(at(2), at(0))
	point := slices.Concat(head, pointForm(api.Point{T: 0, V: 0}), pointForm(api.Point{T: 9, V: 0}))
	zero, long, minus, sign2 := []byte{0, 0, 0}, []byte{0, 0, 2, 0, 1}, []byte{1, 0, 0}, []byte{2, 0, 1, 1}
	one, size0, size1, sizeLong := []byte{0, 0, 1, 1}, []byte{0, 0}, []byte{0, 1, 1}, []byte{0, 2, 0, 1}
	bad := [][]byte{long, minus, sign2, {0, 0, 1, 0}, {1, 0, 1, 0}}
	all := readers(t)
	moments, line, pairs, path := all[0], all[1], all[2], all[3]
	counts := slices.Concat(at(2), at(0), at(0), at(0), []byte{0})
	takes := func(k reader, parts ...[]byte) {
		t.Helper()
		if _, e := k.of(slices.Concat(parts...)); e != api.OK {
			t.Fatalf("%s: %d", k.name, e)
		}
	}
	takes(moments, counts, one, size1)
	takes(line, head, one, size1, one, one)
	takes(pairs, head, one, size1, one, size1, one)
	takes(path, point, one, one, one)
	for _, x := range bad {
		refuses(t, moments, slices.Concat(counts, x, size1), "S")
		refuses(t, line, slices.Concat(head, x, size1, one, one), "sum(t)")
		refuses(t, line, slices.Concat(head, one, size1, x, one), "sum(v)")
		refuses(t, line, slices.Concat(head, one, size1, one, x), "sum(t v)")
		refuses(t, pairs, slices.Concat(head, x, size1, one, size1, one), "sum(a)")
		refuses(t, pairs, slices.Concat(head, one, size1, x, size1, one), "sum(b)")
		refuses(t, pairs, slices.Concat(head, one, size1, one, size1, x), "sum(a b)")
		refuses(t, path, slices.Concat(point, x, zero, zero), "area")
		refuses(t, path, slices.Concat(point, zero, x, zero), "step")
		refuses(t, path, slices.Concat(point, zero, zero, x), "rise")
	}
	for _, x := range [][]byte{sizeLong, {0, 1, 0}, {0, 2, 0, 0}} {
		refuses(t, moments, slices.Concat(counts, zero, x), "Q")
		refuses(t, line, slices.Concat(head, zero, x, zero, zero), "sum(t t)")
		refuses(t, pairs, slices.Concat(head, zero, x, zero, size0, zero), "sum(a a)")
		refuses(t, pairs, slices.Concat(head, zero, size0, zero, x, zero), "sum(b b)")
	}
}

// P4.13 (R2): what is told is the caller's, and what was read is not kept.
func TestFormsMemory(t *testing.T) {
	for _, k := range readers(t) {
		for _, x := range append(k.some, k.none) {
			b := x.Bytes()
			want := slices.Clone(b)
			whole := append(slices.Clone(b), 1, 2, 3)
			y, e := k.of(whole[:len(b)])
			same(t, k.name, e, api.OK)
			if !slices.Equal(whole, append(slices.Clone(want), 1, 2, 3)) {
				t.Fatalf("%s: bytes that were read have changed", k.name)
			}
			for i := range whole {
				whole[i] ^= 0xff
			}
			b = b[:cap(b)]
			for i := range b {
				b[i] ^= 0xff
			}
			if !slices.Equal(x.Bytes(), want) || !slices.Equal(y.Bytes(), want) {
				t.Fatalf("%s keeps what it has told, or was handed", k.name)
			}
		}
	}
}

// P4.13 (R3): any bytes end in a state, or in the error.
func TestFormsOfAnyBytes(t *testing.T) {
	r := rand.New(rand.NewSource(54))
	for _, k := range readers(t) {
		for range 20000 {
			b := make([]byte, r.Intn(80))
			for i := range b {
				if r.Intn(4) == 0 {
					b[i] = byte(r.Intn(4))
				}
			}
			if x, e := k.of(b); e == api.OK && !slices.Equal(x.Bytes(), b) || e != api.OK && e != api.ErrExactForm {
				t.Fatalf("%s: of %x: %d", k.name, b, e)
			}
		}
		refuses(t, k, make([]byte, 1<<20), "many noughts")
		full := make([]byte, 1<<20)
		for i := range full {
			full[i] = 0xff
		}
		refuses(t, k, full, "many ones")
	}
}
