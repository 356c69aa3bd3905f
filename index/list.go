package index

import "cmp"

// those goes through two lists that rise, side by side, and tells the items that are wanted, by the lists they are in.
func those[T cmp.Ordered](a, b []T, wanted func(inA, inB bool) bool) []T {
	if !Rising(a) || !Rising(b) {
		return nil
	}
	var l []T
	for len(a) > 0 || len(b) > 0 {
		inA := len(b) == 0 || len(a) > 0 && !(b[0] < a[0])
		inB := len(a) == 0 || len(b) > 0 && !(a[0] < b[0])
		var x T
		if inB {
			x, b = b[0], b[1:]
		}
		// Behind b's: of two noughts, which are one item here whatever their signs, a's is the first one.
		if inA {
			x, a = a[0], a[1:]
		}
		if wanted(inA, inB) {
			l = append(l, x)
		}
	}
	return l
}

// union tells what is in one of the lists. It puts them together by halves: one by one, the items of the first ones would be gone through again with each further list.
func union[T cmp.Ordered](lists [][]T) []T {
	switch len(lists) {
	case 0:
		return nil
	case 1:
		return lists[0]
	}
	half := len(lists) / 2
	return Or(union(lists[:half]), union(lists[half:]))
}
