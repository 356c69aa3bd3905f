package limb_test

import (
	"math/big"
	"slices"
	"testing"

	"fathom/api"
	"fathom/limb"
)

const mark = 0xdeadbeef

// withRoom tells a number in the midst of a longer array, with marks ahead and behind, and that array.
func withRoom(x *big.Int) (a, whole api.Nat) {
	limbs := natOf(x)
	whole = append(append(api.Nat{mark}, limbs...), mark, mark, mark, mark)
	return whole[1 : 1+len(limbs)], whole
}

// spoil writes over all that a list has, spare room too.
func spoil(a api.Nat) {
	for i := range a[:cap(a)] {
		a[:cap(a)][i] = mark
	}
}

func clones(l []api.Nat) []api.Nat {
	c := make([]api.Nat, len(l))
	for i := range l {
		c[i] = slices.Clone(l[i])
	}
	return c
}

func someNumbers() []*big.Int {
	return []*big.Int{num(0), num(1), num(2), num(1<<32 - 1), two(32), two(64), plus(two(64), -1), plus(two(200), 12345), plus(two(400), -1)}
}

// keepsApart fails if a call changes its arguments or what lies about them, hangs on what lies there, or tells memory that is theirs, or that of another list it tells.
func keepsApart(t *testing.T, what string, args []*big.Int, call func(l []api.Nat) []api.Nat) {
	t.Helper()
	l, wholes, plain := []api.Nat{}, []api.Nat{}, []api.Nat{}
	for _, x := range args {
		a, whole := withRoom(x)
		l, wholes, plain = append(l, a), append(wholes, whole), append(plain, natOf(x))
	}
	before := clones(wholes)
	want := clones(call(plain))
	told := call(l)
	for i := range told {
		if !slices.Equal(told[i], want[i]) {
			t.Fatalf("%s hangs on where its arguments lie", what)
		}
		spoil(told[i])
		for j := i + 1; j < len(told); j++ {
			if !slices.Equal(told[j], want[j]) {
				t.Fatalf("%s tells two lists that share memory", what)
			}
		}
	}
	for i := range wholes {
		if !slices.Equal(wholes[i], before[i]) {
			t.Fatalf("%s: its argument %d, or what lies about it, has changed", what, i)
		}
	}
	again := call(l)
	for i := range again {
		if !slices.Equal(again[i], want[i]) {
			t.Fatalf("%s tells something else when it is asked again", what)
		}
	}
}

// P2.10 (R2): arguments stay, answers are new memory.
func TestMemory(t *testing.T) {
	for name, call := range ofTwo() {
		for _, x := range someNumbers() {
			for _, y := range someNumbers() {
				keepsApart(t, name, []*big.Int{x, y}, func(l []api.Nat) []api.Nat {
					told, _ := call(l[0], l[1])
					return told
				})
			}
			keepsApart(t, name+" of one twice", []*big.Int{x}, func(l []api.Nat) []api.Nat {
				told, _ := call(l[0], l[0])
				return told
			})
		}
	}
	for name, call := range ofOne() {
		for _, x := range someNumbers() {
			for _, n := range []int{0, 1, 32, 64, 65} {
				keepsApart(t, name, []*big.Int{x}, func(l []api.Nat) []api.Nat {
					told, _, _ := call(l[0], n)
					return []api.Nat{told}
				})
			}
		}
	}
}

// P2.10 (R2): calls that only ask leave their arguments, and what lies about them, as they are.
func TestMemoryOfWhatIsAsked(t *testing.T) {
	for _, x := range someNumbers() {
		a, whole := withRoom(x)
		before := slices.Clone(whole)
		limb.Check(a)
		limb.Small(a)
		limb.Cmp(a, a)
		limb.Len(a)
		limb.Low(a)
		limb.Bit(a, 40)
		limb.Text(a)
		b := limb.Bytes(a)
		for i := range b[:cap(b)] {
			b[:cap(b)][i] = 0xee
		}
		if !slices.Equal(whole, before) {
			t.Fatalf("an argument of %s has changed", short(x))
		}
	}
}

// P2.10 (R2): what was told by From, Power, OfBytes, OfText may be written over; bytes that were read stay.
func TestMemoryOfWhatIsMade(t *testing.T) {
	given := []byte{1, 2, 3, 4, 5, 6, 7, 8, 9, 10}
	made := map[string]func() api.Nat{
		"From": func() api.Nat { return limb.From(1<<40 + 7) },
		"Power": func() api.Nat {
			a, _ := limb.Power(10, 30)
			return a
		},
		"OfBytes": func() api.Nat {
			a, _ := limb.OfBytes(given[:7])
			return a
		},
		"OfText": func() api.Nat {
			a, _ := limb.OfText("123456789012345678901234567890")
			return a
		},
	}
	for name, make := range made {
		first := make()
		want := slices.Clone(first)
		spoil(first)
		if !slices.Equal(make(), want) {
			t.Errorf("%s tells what was written over", name)
		}
	}
	if !slices.Equal(given, []byte{1, 2, 3, 4, 5, 6, 7, 8, 9, 10}) {
		t.Error("OfBytes has changed its bytes")
	}
}

// P2.10 (R2): nil and empty lists are one.
func TestNilAndEmpty(t *testing.T) {
	for name, call := range ofTwo() {
		for _, other := range []api.Nat{nil, {7}, {1, 2, 3}} {
			ahead, e := call(nil, other)
			wantAhead, wantE := call(api.Nat{}, other)
			if e != wantE || !slices.EqualFunc(ahead, wantAhead, slices.Equal[api.Nat]) {
				t.Errorf("%s tells nil from empty ahead", name)
			}
			behind, e := call(other, nil)
			wantBehind, wantE := call(other, api.Nat{})
			if e != wantE || !slices.EqualFunc(behind, wantBehind, slices.Equal[api.Nat]) {
				t.Errorf("%s tells nil from empty behind", name)
			}
		}
	}
	if limb.Cmp(nil, api.Nat{}) != 0 || limb.Text(api.Nat{}) != "0" || limb.Text(nil) != "0" {
		t.Error("nil is not 0")
	}
	a, e := limb.OfBytes(nil)
	is(t, "OfBytes(nil)", a, e, num(0))
	a, e = limb.OfBytes([]byte{})
	is(t, "OfBytes of none", a, e, num(0))
}
