package exact

import (
	"fathom/api"
	"fathom/limb"
)

const maxBits = 32 * api.MaxLimbs // of a Nat

// quotient tells the leading bits of p / q * 2^e.
func quotient(p, q api.Nat, e int) leading {
	if len(p) == 0 {
		return leading{}
	}
	whole, more, up := divide(p, q, headBits)
	head, _ := limb.Small(whole)
	return leading{head: head, more: more, e: near(e) - up}
}

// root tells those of its square root.
func root(p, q api.Nat, e int) leading {
	if len(p) == 0 {
		return leading{}
	}
	e = near(e)
	size := 2*headBits - 1 + (e+limb.Len(p)-limb.Len(q))&1 // such that the power of 2 that is left is even
	whole, more, up := divide(p, q, size)
	r, exact, _ := limb.Root(whole)
	head, _ := limb.Small(r)
	return leading{head: head, more: more || !exact, e: (e - up) / 2}
}

// near cuts a power of 2: a ratio lies between 2^-maxBits and 2^maxBits, so that powers farther off change nothing, but could wrap.
func near(e int) int {
	const far = 4 * maxBits
	return min(max(e, -far), far)
}

// divide tells p / q * 2^up, rounded down, and whether there is more; up is such that it has size bits, or one less. Neither is 0.
func divide(p, q api.Nat, size int) (whole api.Nat, more bool, up int) {
	up = limb.Len(q) + size - 1 - limb.Len(p)
	if limb.Len(q)+size-1 > maxBits {
		whole, more = divideLong(p, q, size)
		return whole, more, up
	}
	whole, rest, _ := limb.DivMod(shifted(p, up), shifted(q, -up))
	return whole, len(rest) > 0, up
}

// divideLong tells what divide tells, bit by bit, where p would be too long if it were shifted. Both are shifted to one length, and what is left stays below q: it is never doubled where that would be too long, but held against what it lacks.
func divideLong(p, q api.Nat, size int) (whole api.Nat, more bool) {
	up := limb.Len(q) - limb.Len(p)
	rest, by := shifted(p, up), shifted(q, -up)
	if limb.Cmp(rest, by) >= 0 {
		rest, whole = less(rest, by), limb.From(1)
	}
	for range size - 1 {
		whole = plus(whole, whole)
		lack := less(by, rest)
		if limb.Cmp(rest, lack) < 0 {
			rest = plus(rest, rest)
			continue
		}
		rest, whole = less(rest, lack), plus(whole, limb.From(1))
	}
	return whole, len(rest) > 0
}

// shifted tells a times 2^n, or a itself, if n is below 0.
func shifted(a api.Nat, n int) api.Nat {
	b, _ := limb.Left(a, max(n, 0))
	return b
}
