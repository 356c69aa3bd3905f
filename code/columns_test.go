package code_test

import (
	"math/rand"

	"fathom/api"
)

// edgeValues are values of all sorts of floats, and bits at the ends.
func edgeValues[T word]() []T {
	w, fraction := wideOf[T](), 52
	if w == 32 {
		fraction = 23
	}
	sign := T(1) << (w - 1)
	inf := sign - T(1)<<fraction
	quiet := T(1) << (fraction - 1)
	one := read[T]("1")
	l := []T{0, 1, 2, 3, one, one + 1, one - 1, inf - 1, inf, inf | 1, inf | quiet, inf | quiet | 5, inf | (quiet - 1), T(1) << fraction, T(1)<<fraction - 1}
	for _, text := range []string{"0.1", "0.3", "1.5", "1e-10", "1e-11", "1e-22", "1e-23", "999999", "1000000", "0.999999", "999999999999999", "1e15", "1e22", "123.456", "5e-5"} {
		l = append(l, read[T](text))
	}
	for _, v := range append([]T{}, l...) {
		l = append(l, v|sign)
	}
	return append(l, ^T(0)-1)
}

// anyDecimal tells a value of few digits at p.
func anyDecimal[T word](rnd *rand.Rand, p int) T {
	digits, _ := boundsOf[T]()
	k := int64(1)
	for range rnd.Intn(digits + 1) {
		k *= 10
	}
	return valueAt[T](rnd.Int63n(2*k+1)-k, p)
}

// anyColumn tells n values of one sort.
func anyColumn[T word](rnd *rand.Rand, n int) []T {
	edges := edgeValues[T]()
	_, most := boundsOf[T]()
	sort, p, few := rnd.Intn(10), rnd.Intn(most+1), make([]T, 1+rnd.Intn(300))
	for i := range few {
		few[i] = T(rnd.Uint64())
	}
	v, step, k := T(rnd.Uint64()), T(rnd.Uint64()), rnd.Int63n(1000)
	l := []T{}
	for range n {
		l = append(l, v)
		switch sort {
		case 0:
			v = T(rnd.Uint64())
		case 1:
			v = edges[rnd.Intn(len(edges))]
		case 2:
			v = anyDecimal[T](rnd, p)
		case 3:
			v = anyDecimal[T](rnd, rnd.Intn(most+1))
		case 4:
			k += rnd.Int63n(201) - 100
			v = valueAt[T](k, p)
		case 5:
			v = anyDecimal[T](rnd, p) + T(rnd.Intn(5)/4)
		case 6:
			v += step + T(rnd.Intn(5)) - 2
		case 7:
			v = few[rnd.Intn(len(few))]
		case 8:
			v = []T{v, v, v, v, v, step, v + 1}[rnd.Intn(7)]
		case 9:
			v = few[0] ^ T(rnd.Intn(16))
		}
	}
	return l
}

// samples are columns of all sorts.
func samples[T word]() [][]T {
	edges := edgeValues[T]()
	l := [][]T{nil, {}, {0, 0}, {0, 1}, {1, 0}, {0, ^T(0)}, {^T(0), 0, ^T(0)}, {5, 5, 5, 5, 5, 5, 5, 5, 5}, edges}
	for _, v := range edges {
		l = append(l, []T{v}, []T{v, ^v}, []T{v, v, ^v, v})
	}
	rnd := rand.New(rand.NewSource(8))
	for range 1000 {
		l = append(l, anyColumn[T](rnd, 1+rnd.Intn(40)))
	}
	for range 20 {
		l = append(l, anyColumn[T](rnd, 300+rnd.Intn(300)))
	}
	return append(l, anyColumn[T](rnd, api.MaxColumn), anyColumn[T](rnd, api.MaxColumn))
}

// rising are n unlike values, far apart.
func rising[T word](n int) []T {
	l := make([]T, n)
	for i := range l {
		l[i] = T(i) * (^T(0) / T(n))
	}
	return l
}

// mapped tells each value changed.
func mapped[T word](l []T, change func(v T) T) []T {
	m := make([]T, len(l))
	for i, v := range l {
		m[i] = change(v)
	}
	return m
}
