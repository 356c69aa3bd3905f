package exact

import (
	"fathom/api"
	"fathom/limb"
)

// putNum lays a number of so many bytes, the highest first.
func putNum(b []byte, n uint64, bytes int) []byte {
	for i := range bytes {
		b = append(b, byte(n>>(8*(bytes-1-i))))
	}
	return b
}

func putFlag(b []byte, is bool) []byte {
	if is {
		return append(b, 1)
	}
	return append(b, 0)
}

// putSize lays a whole number of any size: no sum has so many bytes that two don't hold their number.
func putSize(b []byte, size api.Nat) []byte {
	bytes := limb.Bytes(size)
	return append(putNum(b, uint64(len(bytes)), 2), bytes...)
}

func putNumber(b []byte, x number) []byte { return putSize(putFlag(b, x.neg), x.size) }

// form is a state's bytes that are read, one thing behind the other; once something is not as it must be, noughts are told.
type form struct {
	rest   []byte
	broken bool
}

func (f *form) take(n int) []byte {
	if f.broken || n > len(f.rest) {
		f.broken = true
		return nil
	}
	taken := f.rest[:n]
	f.rest = f.rest[n:]
	return taken
}

func (f *form) num(bytes int) uint64 {
	n := uint64(0)
	for _, b := range f.take(bytes) {
		n = n<<8 | uint64(b)
	}
	return n
}

func (f *form) flag() bool {
	n := f.num(1)
	f.broken = f.broken || n > 1
	return n == 1
}

func (f *form) size() number {
	size, e := limb.OfBytes(f.take(int(f.num(2))))
	f.broken = f.broken || e != api.OK
	return number{size: size}
}

func (f *form) number() number {
	neg := f.flag()
	x := f.size()
	f.broken = f.broken || neg && x.isZero()
	return number{neg: neg, size: x.size}
}

// whole tells whether all was as it must be, and nothing is left.
func (f *form) whole() bool { return !f.broken && len(f.rest) == 0 }

// countsFit tells whether there are not too many, and not more of some kinds than in all.
func countsFit(all uint64, kinds ...uint64) bool {
	left := all
	for _, n := range kinds {
		if n > left {
			return false
		}
		left -= n
	}
	return all <= api.MaxCount
}

// greatest tells the greatest finite float in units.
func greatest() api.Nat { return shifted(limb.From(1<<53-1), 971-leastPower) }

// sumFits tells whether so many values can have the sum.
func sumFits(n, sum number) bool { return within(sum.size, times(n.size, greatest())) }

// productsFit tells whether so many products of two values can.
func productsFit(n, sum number) bool {
	return within(sum.size, times(n.size, times(greatest(), greatest())))
}

// valuesFit tells whether so many values can have the sum, and their squares the other one.
func valuesFit(n, sum, squares number) bool {
	return sumFits(n, sum) && productsFit(n, squares) && !spread(n, squares, sum, sum).neg
}
