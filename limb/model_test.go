package limb_test

import (
	"math/big"
	"math/rand"
	"slices"
	"testing"

	"fathom/api"
	"fathom/limb"
)

// The model: numbers of math/big, turned into limbs and back by the chapter's words alone.

const maxBits = 32 * api.MaxLimbs

func bigOf(a api.Nat) *big.Int {
	b := make([]byte, 0, 4*len(a))
	for _, x := range slices.Backward(a) {
		b = append(b, byte(x>>24), byte(x>>16), byte(x>>8), byte(x))
	}
	return new(big.Int).SetBytes(b)
}

func natOf(x *big.Int) api.Nat {
	b := x.Bytes()
	slices.Reverse(b)
	a := make(api.Nat, (len(b)+3)/4)
	for i, c := range b {
		a[i/4] |= uint32(c) << (i % 4 * 8)
	}
	return a
}

func num(n int64) *big.Int { return big.NewInt(n) }

// two tells 2^n.
func two(n int) *big.Int { return new(big.Int).Lsh(num(1), uint(n)) }

// most tells the greatest number that may be.
func most() *big.Int { return new(big.Int).Sub(two(maxBits), num(1)) }

func plus(x *big.Int, n int64) *big.Int { return new(big.Int).Add(x, num(n)) }

// is fails unless an answer is the number, in its one form; or ErrLimbLong, where it is too long.
func is(t *testing.T, what string, a api.Nat, e api.Errno, want *big.Int) {
	t.Helper()
	if want.BitLen() > maxBits {
		fails(t, what, a, e, api.ErrLimbLong)
		return
	}
	if e != api.OK || !slices.Equal(a, natOf(want)) {
		t.Fatalf("%s: error %d, %s; want %s", what, e, short(bigOf(a)), short(want))
	}
}

// fails fails unless an answer is that error, and no number beside it.
func fails(t *testing.T, what string, a api.Nat, e, want api.Errno) {
	t.Helper()
	if e != want || len(a) != 0 {
		t.Fatalf("%s: error %d beside %d limbs; want error %d and none", what, e, len(a), want)
	}
}

func short(x *big.Int) string {
	s := x.Text(16)
	if len(s) > 80 {
		return s[:40] + ".." + s[len(s)-40:]
	}
	return s
}

// edgeLimbs are limbs at which carries, borrows and guesses turn.
func edgeLimbs() []uint32 {
	return []uint32{0, 1, 0x7fffffff, 0x80000000, 0xfffffffe, 0xffffffff}
}

// edges are numbers next to powers of 2, and some others of few limbs.
func edges() []*big.Int {
	l := []*big.Int{num(0), num(1), num(2), num(3), num(10)}
	for _, n := range []int{8, 16, 31, 32, 33, 53, 62, 63, 64, 65, 95, 96, 97, 128, 1000, 2048} {
		l = append(l, plus(two(n), -1), two(n), plus(two(n), 1))
	}
	return l
}

// anyNumber tells a number of at most so many limbs, of all lengths alike, at random or of limbs at their edges.
func anyNumber(rnd *rand.Rand, limbs int) *big.Int {
	a := make(api.Nat, rnd.Intn(limbs+1))
	plain := rnd.Intn(2) == 0
	for i := range a {
		if plain {
			a[i] = rnd.Uint32()
		} else {
			a[i] = edgeLimbs()[rnd.Intn(6)]
		}
	}
	return bigOf(a)
}

// pairs tells pairs of edges, and of any numbers.
func pairs(limbs, n int) [][2]*big.Int {
	rnd := rand.New(rand.NewSource(2))
	l := [][2]*big.Int{}
	for _, x := range edges() {
		for _, y := range edges() {
			l = append(l, [2]*big.Int{x, y})
		}
	}
	for range n {
		l = append(l, [2]*big.Int{anyNumber(rnd, limbs), anyNumber(rnd, limbs)})
	}
	return l
}

// singles tells edges, and any numbers.
func singles(limbs, n int) []*big.Int {
	rnd := rand.New(rand.NewSource(3))
	l := edges()
	for range n {
		l = append(l, anyNumber(rnd, limbs))
	}
	return l
}

// tooLong tells limbs that are one too many, with that one on top.
func tooLong(top uint32) api.Nat {
	a := make(api.Nat, api.MaxLimbs+1)
	a[api.MaxLimbs] = top
	return a
}

// noNumbers are lists that are no numbers, with Check's errors.
func noNumbers() []struct {
	a api.Nat
	e api.Errno
} {
	return []struct {
		a api.Nat
		e api.Errno
	}{
		{api.Nat{0}, api.ErrLimbForm},
		{api.Nat{1, 0}, api.ErrLimbForm},
		{api.Nat{0, 0, 0}, api.ErrLimbForm},
		{make(api.Nat, api.MaxLimbs), api.ErrLimbForm},
		{tooLong(1), api.ErrLimbLong},
		{tooLong(0), api.ErrLimbLong},
		{make(api.Nat, 3*api.MaxLimbs), api.ErrLimbLong},
	}
}

// ofTwo are the calls of two numbers, with all numbers that they tell.
func ofTwo() map[string]func(a, b api.Nat) ([]api.Nat, api.Errno) {
	one := func(f func(a, b api.Nat) (api.Nat, api.Errno)) func(a, b api.Nat) ([]api.Nat, api.Errno) {
		return func(a, b api.Nat) ([]api.Nat, api.Errno) {
			c, e := f(a, b)
			return []api.Nat{c}, e
		}
	}
	return map[string]func(a, b api.Nat) ([]api.Nat, api.Errno){
		"Add": one(limb.Add),
		"Sub": one(limb.Sub),
		"Mul": one(limb.Mul),
		"Gcd": one(limb.Gcd),
		"DivMod": func(a, b api.Nat) ([]api.Nat, api.Errno) {
			q, r, e := limb.DivMod(a, b)
			return []api.Nat{q, r}, e
		},
	}
}

// ofOne are the calls of a number and a count, with the number that they tell, and whether they say true.
func ofOne() map[string]func(a api.Nat, n int) (api.Nat, bool, api.Errno) {
	return map[string]func(a api.Nat, n int) (api.Nat, bool, api.Errno){
		"Left": func(a api.Nat, n int) (api.Nat, bool, api.Errno) {
			b, e := limb.Left(a, n)
			return b, false, e
		},
		"Right": limb.Right,
		"Root":  func(a api.Nat, n int) (api.Nat, bool, api.Errno) { return limb.Root(a) },
	}
}
