package store

// least is the least int64 among unsigned numbers: a time is laid so far above it that bytes stand in the order of times.
const least = 1 << 63

// How many bytes a time has, or another number that may be as great; the number of a series, or how many points there are; how many bytes a key has. A point is a time and a value.
const (
	long  = 8
	word  = 4
	short = 2

	pointSize = 2 * long
)

// laid lays a number with the highest byte first.
func laid(b []byte, n uint64, size int) []byte {
	for i := range size {
		b = append(b, byte(n>>(8*(size-1-i))))
	}
	return b
}

func laidTime(b []byte, t int64) []byte { return laid(b, uint64(t)+least, long) }

// laidKey lays a series' kind, and its key behind its length.
func laidKey(b []byte, kind int, key string) []byte {
	b = laid(append(b, byte(kind)), uint64(len(key)), short)
	return append(b, key...)
}

// reader takes things from the front of bytes. It is bad for good, and tells noughts, once something stands there that may not.
type reader struct {
	left []byte
	bad  bool
}

func (r *reader) want(good bool) { r.bad = r.bad || !good }

// more tells whether there is anything left to be taken.
func (r *reader) more() bool { return !r.bad && len(r.left) > 0 }

func (r *reader) bytes(size int) []byte {
	r.want(size <= len(r.left))
	if r.bad {
		return nil
	}
	b := r.left[:size]
	r.left = r.left[size:]
	return b
}

func (r *reader) number(size int) uint64 {
	n := uint64(0)
	for _, c := range r.bytes(size) {
		n = n<<8 | uint64(c)
	}
	return n
}

func (r *reader) time() int64 { return int64(r.number(long) - least) }

// series takes a kind and a key.
func (r *reader) series() series {
	kind := int(r.number(1))
	x, good := seriesOf(string(r.bytes(int(r.number(short)))), kind)
	r.want(good)
	return x
}
