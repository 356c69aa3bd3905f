package block

// sumSize is how many bytes a Sum has.
const sumSize = 4

// changes tells, of four bits that drop one behind the other, by what the number has been changed in the end.
var changes = [16]uint32{
	0x00000000, 0x1db71064, 0x3b6e20c8, 0x26d930ac,
	0x76dc4190, 0x6b6b51f4, 0x4db26158, 0x5005713c,
	0xedb88320, 0xf00f9344, 0xd6d6a3e8, 0xcb61b38c,
	0x9b64c2b0, 0x86d3d2d4, 0xa00ae278, 0xbdbdf21c,
}

// Sum tells a CRC-32.
func Sum(b []byte) uint32 {
	x := ^uint32(0)
	for _, c := range b {
		x ^= uint32(c)
		x = x>>4 ^ changes[x&15]
		x = x>>4 ^ changes[x&15]
	}
	return ^x
}

// joined tells parts one behind the other.
func joined(parts ...[]byte) []byte {
	size := 0
	for _, p := range parts {
		size += len(p)
	}
	b := make([]byte, size)
	at := 0
	for _, p := range parts {
		at += copy(b[at:], p)
	}
	return b
}

// sealed tells parts one behind the other, and the Sum of all behind them.
func sealed(parts ...[]byte) []byte {
	b := joined(parts...)
	x := Sum(b)
	return joined(b, []byte{byte(x >> 24), byte(x >> 16), byte(x >> 8), byte(x)})
}

// unsealed tells what stands ahead of the last four bytes, and whether these are its Sum; there must be four.
func unsealed(b []byte) (own []byte, whole bool) {
	at := len(b) - sumSize
	x := uint32(b[at])<<24 | uint32(b[at+1])<<16 | uint32(b[at+2])<<8 | uint32(b[at+3])
	return b[:at], Sum(b[:at]) == x
}
