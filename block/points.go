package block

import (
	"fathom/api"
	"fathom/code"
	"fathom/float"
	"fathom/times"
)

func timeOf(p api.Point) int64 { return p.T }

func valueOf(p api.Point) uint64 { return p.V }

// mapped tells of each what a function tells of it.
func mapped[A, B any](l []A, of func(A) B) []B {
	m := make([]B, len(l))
	for i, x := range l {
		m[i] = of(x)
	}
	return m
}

func isKind(kind int) bool { return kind == api.KindWide || kind == api.KindNarrow }

func isCount(n int) bool { return n >= 1 && n <= api.MaxBlock }

// refusal tells the error of points that no block has.
func refusal(kind int, l []api.Point) api.Errno {
	switch {
	case !isKind(kind):
		return api.ErrBlockKind
	case !isCount(len(l)):
		return api.ErrBlockCount
	case !rise(l):
		return api.ErrBlockTimes
	case kind == api.KindNarrow && !allNarrow(l):
		return api.ErrBlockNarrow
	}
	return api.OK
}

// rise tells whether each time is above the one ahead.
func rise(l []api.Point) bool {
	for i := 1; i < len(l); i++ {
		if l[i].T <= l[i-1].T {
			return false
		}
	}
	return true
}

// allNarrow tells whether each value comes back from a binary32.
func allNarrow(l []api.Point) bool {
	for _, p := range l {
		if float.Widen(float.Narrow(p.V)) != p.V {
			return false
		}
	}
	return true
}

// packTimes tells the bytes of the times of points that were not refused: of these there is no error.
func packTimes(l []api.Point) []byte {
	b, _ := times.Pack(mapped(l, timeOf))
	return b
}

// packValues tells the coding that has the fewest bytes, and these, of points that were not refused.
func packValues(kind int, l []api.Point) (coding int, b []byte) {
	values := mapped(l, valueOf)
	if kind == api.KindNarrow {
		coding, b, _ = code.Best(mapped(values, float.Narrow))
		return coding, b
	}
	coding, b, _ = code.Best(values)
	return coding, b
}

// unpackValues tells the values that bytes are by a head's kind and coding.
func unpackValues(h head, b []byte) ([]uint64, api.Errno) {
	if h.Kind == api.KindNarrow {
		l, e := code.Unpack[uint32](h.coding, b, h.Count)
		return mapped(l, float.Widen), e
	}
	return code.Unpack[uint64](h.coding, b, h.Count)
}

// summary tells what a head says of points, but not how they are packed.
func summary(kind int, l []api.Point) api.BlockHead {
	h := api.BlockHead{Kind: kind, Count: len(l), First: l[0].T, Last: l[len(l)-1].T}
	least, greatest := ^uint64(0), uint64(0) // places in the order of all patterns
	for _, p := range l {
		if isNaN(p.V) {
			h.Nans++
			continue
		}
		k := float.Key(p.V)
		least, greatest = min(least, k), max(greatest, k)
	}
	h.Least, h.Greatest = float.OfKey(least), float.OfKey(greatest)
	if h.Nans == h.Count {
		h.Least, h.Greatest = api.NaN64, api.NaN64
	}
	return h
}

func isNaN(v uint64) bool {
	class := float.Class(v)
	return class == api.ClassQuiet || class == api.ClassSignal
}
