package roll

import (
	"bytes"

	"fathom/api"
)

// The form's first byte, and how many bytes numbers have in it.
const (
	mark    = 0x52
	time    = 8
	counted = 4
	length  = 2
)

// laid lays a number with the highest byte first.
func laid(b []byte, n uint64, size int) []byte {
	for i := range size {
		b = append(b, byte(n>>(8*(size-1-i))))
	}
	return b
}

func written(w api.Window, l []api.Cell) []byte {
	b := laid([]byte{mark}, uint64(w.Step), time)
	b = laid(b, uint64(w.Origin), time)
	b = laid(b, uint64(len(l)), counted)
	for _, c := range l {
		b = laid(b, uint64(c.First), time)
		b = laid(b, uint64(len(c.State)), length)
		b = append(b, c.State...)
	}
	return b
}

// reader takes things from the front of bytes. It is short for good, and tells noughts, once there were too few (or would be more cells than may be).
type reader struct {
	left  []byte
	short bool
}

func (r *reader) bytes(size int) []byte {
	r.short = r.short || size > len(r.left)
	if r.short {
		return nil
	}
	b := r.left[:size]
	r.left = r.left[size:]
	return b
}

func (r *reader) number(size int) uint64 {
	n := uint64(0)
	for _, c := range r.bytes(size) {
		n = n<<8 | uint64(c)
	}
	return n
}

// read tells the windows and cells that bytes are laid of; what these say is not asked.
func read(b []byte) (w api.Window, l []api.Cell, good bool) {
	r := &reader{left: b}
	first := r.number(1)
	w = api.Window{Step: int64(r.number(time)), Origin: int64(r.number(time))}
	n := int(r.number(counted))
	r.short = r.short || n > api.MaxCells
	for len(l) < n && !r.short {
		name := int64(r.number(time))
		state := r.bytes(int(r.number(length)))
		l = append(l, api.Cell{First: name, State: bytes.Clone(state)})
	}
	return w, l, first == mark && !r.short && len(r.left) == 0
}
