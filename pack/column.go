package pack

import "fathom/bits"

// column is what a column's next value is held against.
type column[T word] struct {
	ahead T
	old   window[T] // the one that was laid last
}

// lay lays the next value.
func (c *column[T]) lay(w *bits.Writer, v T) {
	x := v ^ c.ahead
	c.ahead = v
	w.Bit(x != 0)
	if x == 0 {
		return
	}
	in, own := c.pick(x)
	w.Bit(own)
	if own {
		in.lay(w)
		c.old = in
	}
	w.Bits(uint64(x>>in.behind()), in.length)
}

// take takes the next value, and tells whether it stood as lay would have laid it. Bits that are not there are taken as noughts.
func (c *column[T]) take(r *bits.Reader) (asLaid bool) {
	if !r.Bit() {
		return true
	}
	in, own := c.old, r.Bit()
	if own {
		in = takeWindow[T](r)
	}
	if !in.stands() {
		return false
	}
	x := T(r.Bits(in.length)) << in.behind()
	if x == 0 {
		return false
	}
	if wantIn, wantOwn := c.pick(x); in != wantIn || own != wantOwn {
		return false
	}
	c.ahead ^= x
	c.old = in
	return true
}

// pick tells in which window x, which isn't 0, is laid: in the old one, or in its own.
func (c *column[T]) pick(x T) (in window[T], own bool) {
	tight := windowOf(x)
	if c.old.suits(tight) {
		return c.old, false
	}
	return tight, true
}

func (p window[T]) lay(w *bits.Writer) {
	w.Bits(uint64(p.lead), fieldWidth[T]())
	w.Bits(uint64(p.length-1), fieldWidth[T]())
}

// takeWindow takes a window, whether it lies within a value or not.
func takeWindow[T word](r *bits.Reader) window[T] {
	lead := int(r.Bits(fieldWidth[T]()))
	return window[T]{lead: lead, length: int(r.Bits(fieldWidth[T]())) + 1}
}
