package pack

import "math/bits"

// word is a column's value: a float's bits, of either width.
type word interface{ uint64 | uint32 }

// width tells how many bits a value has.
func width[T word]() int { return bits.Len64(uint64(^T(0))) }

// fieldWidth tells how many bits hold a place in a value, and so a window's lead, and its length less 1.
func fieldWidth[T word]() int { return bits.Len64(uint64(width[T]() - 1)) }

// window is a piece of a value: so many bits, behind so many others. A zero one is none.
type window[T word] struct {
	lead   int
	length int
}

// windowOf tells the tightest window of x, which isn't 0.
func windowOf[T word](x T) window[T] {
	lead := width[T]() - bits.Len64(uint64(x))
	behind := bits.TrailingZeros64(uint64(x))
	return window[T]{lead: lead, length: width[T]() - lead - behind}
}

// behind tells how many bits of a value stand behind the window; below 0 are those that it goes beyond the value.
func (p window[T]) behind() int { return width[T]() - p.lead - p.length }

// stands tells whether it is a window at all, and lies within a value.
func (p window[T]) stands() bool { return p.length > 0 && p.behind() >= 0 }

// suits tells whether what has a tight window of its own is laid in this one: it must fit, and take no more bits than with its own, whose two fields would be laid, too.
func (p window[T]) suits(tight window[T]) bool {
	fits := tight.lead >= p.lead && tight.behind() >= p.behind()
	return p.stands() && fits && p.length <= tight.length+2*fieldWidth[T]()
}
