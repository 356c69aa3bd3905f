package disk

// file is a row of bytes, of which a beginning is sure. Nobody else has its memory.
type file struct {
	bytes []byte
	sure  int
}

func (f *file) lay(b []byte) { f.bytes = append(f.bytes, b...) }

func (f *file) cut(size int) {
	f.bytes = f.bytes[:size]
	f.sure = min(f.sure, size)
}

func (f *file) settle() { f.sure = len(f.bytes) }

// lose takes so many bytes off the end, but none that are sure.
func (f *file) lose(n int) {
	f.cut(max(f.sure, len(f.bytes)-max(n, 0)))
}
