package times

import "fathom/bits"

const timeWide = 64 // bits of a first time

// How many bits a row of the table has for its numbers, and the least number of each row: those of a row go on where the row ahead ends.
const (
	wide1 = 7
	wide2 = 12
	wide3 = 20
	wide4 = 64

	least1 = 1
	least2 = least1 + 1<<wide1
	least3 = least2 + 1<<wide2
	least4 = least3 + 1<<wide3
)

// zigzag tells a bend as a number that is small if the bend is near 0, on either side.
func zigzag(x int64) uint64 { return uint64(x)<<1 ^ uint64(x>>63) }

func unzigzag(u uint64) int64 { return int64(u>>1) ^ -int64(u&1) }

// layZigzag lays u by the row of the table that holds it.
func layZigzag(w *bits.Writer, u uint64) {
	if u >= least1 {
		goto row1
	}
	w.Bits(0, 1)
	return
row1:
	if u >= least2 {
		goto row2
	}
	w.Bits(0b10, 2)
	w.Bits(u-least1, wide1)
	return
row2:
	if u >= least3 {
		goto row3
	}
	w.Bits(0b110, 3)
	w.Bits(u-least2, wide2)
	return
row3:
	if u >= least4 {
		goto row4
	}
	w.Bits(0b1110, 4)
	w.Bits(u-least3, wide3)
	return
row4:
	w.Bits(0b1111, 4)
	w.Bits(u, wide4)
}

// takeZigzag takes u, and tells whether it stood in the row that holds it: in the last one each number has room.
func takeZigzag(r *bits.Reader) (u uint64, ok bool) {
	if r.Bit() {
		goto row1
	}
	return 0, true
row1:
	if r.Bit() {
		goto row2
	}
	return least1 + r.Bits(wide1), true
row2:
	if r.Bit() {
		goto row3
	}
	return least2 + r.Bits(wide2), true
row3:
	if r.Bit() {
		goto row4
	}
	return least3 + r.Bits(wide3), true
row4:
	u = r.Bits(wide4)
	return u, u >= least4
}
