package bits

import "fathom/api"

// Reader takes bits again; its first error stays.
type Reader struct {
	bytes   string // a string: nobody can write it over
	at      int    // bits that have been taken
	refused api.Errno
}

// From begins to read bytes.
func From(b []byte) *Reader { return &Reader{bytes: string(b)} }

// Bit takes one bit, true for 1.
func (r *Reader) Bit() bool { return r.Bits(1) == 1 }

// Bits takes a number of n bits, the highest first.
func (r *Reader) Bits(n int) uint64 {
	if n < 0 || n > maxWidth {
		r.refuse(api.ErrBitsWidth)
	} else if n > r.Left() {
		r.refuse(api.ErrBitsShort)
	}
	if r.refused != api.OK {
		return 0
	}
	x := r.look(r.at, n)
	r.at += n
	return x
}

// Unary takes ones and the nought behind them, and tells how many ones.
func (r *Reader) Unary() int {
	n := r.ones()
	if n > api.MaxUnary {
		r.refuse(api.ErrBitsLong)
	} else if n == r.Left() {
		r.refuse(api.ErrBitsShort)
	}
	if r.refused != api.OK {
		return 0
	}
	r.at += n + 1
	return n
}

// Var takes a number of groups.
func (r *Reader) Var() uint64 {
	x, end, e := r.groups()
	r.refuse(e)
	if r.refused != api.OK {
		return 0
	}
	r.at = end
	return x
}

// Zig takes a number whose sign stands in the lowest bit.
func (r *Reader) Zig() int64 {
	x := r.Var()
	return int64(x>>1) ^ -int64(x&1)
}

// Left tells how many bits are left.
func (r *Reader) Left() int { return r.size() - r.at }

// End tells the first refusal's error, or whether something other than spare noughts is left.
func (r *Reader) End() api.Errno {
	switch {
	case r.refused != api.OK:
		return r.refused
	case r.Left() >= 8:
		return api.ErrBitsLeft
	case r.look(r.at, r.Left()) != 0:
		return api.ErrBitsForm
	}
	return api.OK
}

func (r *Reader) refuse(e api.Errno) {
	if r.refused == api.OK {
		r.refused = e
	}
}

func (r *Reader) size() int { return len(r.bytes) * 8 }

// look tells the n bits from at on, which must be there, and takes nothing.
func (r *Reader) look(at, n int) uint64 {
	x := uint64(0)
	for n > 0 {
		room := 8 - at%8
		k := min(room, n)
		part := r.bytes[at/8] >> (room - k) & lowOnes(k)
		x = x<<k | uint64(part)
		at += k
		n -= k
	}
	return x
}

// ones tells how many ones stand in front, up to the first one that is too many.
func (r *Reader) ones() int {
	most := min(r.Left(), api.MaxUnary+1)
	n := 0
	for n < most && r.look(r.at+n, 1) == 1 {
		n++
	}
	return n
}

// groups looks at a Var in front: the number, and where it ends.
func (r *Reader) groups() (x uint64, end int, e api.Errno) {
	place := 0
	end = r.at
next:
	if r.size()-end < groupWide {
		return 0, 0, api.ErrBitsShort
	}
	g := r.look(end, groupWide)
	end += groupWide
	if place == topPlace && g > 1 || place > 0 && g == 0 {
		return 0, 0, api.ErrBitsForm
	}
	x |= (g & groupMask) << place
	if g&groupMore != 0 {
		place += groupHeld
		goto next
	}
	return x, end, api.OK
}
