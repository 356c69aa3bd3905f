package segment

import (
	"slices"

	"fathom/api"
	"fathom/block"
)

const (
	// mark is what a segment begins with.
	mark = "FSG\x01"
	// headSize is how many bytes stand ahead of the first row's: the mark and size.
	headSize = len(mark) + 2
	// footSize is how many bytes stand behind the index.
	footSize = 3 * word
	// word is how many bytes a Sum has, or a count.
	word = 4
	// spanSize is how many bytes a span has in the index.
	spanSize = 2 * 8
	// cellSize is how many bytes a cell has beside its state.
	cellSize = 8 + 2
	// entrySize is how many bytes a row has in the index beside its key, its blocks and its spans: the key's length, the kind, how many blocks, spans and cells, the cells' bytes, their Sum.
	entrySize = 2 + 1 + 5*word
)

// bareSize tells how many bytes a segment of rows has beside its blocks.
func bareSize(size int, l []api.Row) int {
	n := headSize + word + footSize
	for _, r := range l {
		blocks := (len(r.Run.Points) + size - 1) / size
		n += entrySize + len(r.Key) + blocks*word + len(r.Run.Spans)*spanSize + partSize(r.Cells)
	}
	return n
}

// partSize tells how many bytes cells have, their Sum with them.
func partSize(l []api.Cell) int {
	if len(l) == 0 {
		return 0
	}
	n := word
	for _, c := range l {
		n += cellSize + len(c.State)
	}
	return n
}

// packed tells the blocks of each row, if they fit in a room; it goes no further than that.
func packed(size int, l []api.Row, room int) (blocks [][][]byte, fit bool) {
	blocks = make([][][]byte, len(l))
	for i, r := range l {
		for points := range slices.Chunk(r.Run.Points, size) {
			b, _ := block.Encode(r.Kind, points) // of a row that may be none is refused
			if room -= len(b); room < 0 {
				return nil, false
			}
			blocks[i] = append(blocks[i], b)
		}
	}
	return blocks, room >= 0
}

// written tells the bytes of rows whose blocks are these.
func written(size int, l []api.Row, blocks [][][]byte) []byte {
	b := laid([]byte(mark), uint64(size), 2)
	index := laid(nil, uint64(len(l)), word)
	for i, r := range l {
		cells := cellBytes(r.Cells)
		for _, own := range blocks[i] {
			b = append(b, own...)
		}
		b = append(b, cells...)
		index = laidEntry(index, r, blocks[i], cells)
	}
	foot := laid(nil, uint64(len(index)), word)
	foot = laid(foot, uint64(sumOf(b[:headSize], index)), word)
	return slices.Concat(b, index, sealed(foot))
}

// cellBytes tells the part of cells; there is none, if there are none.
func cellBytes(l []api.Cell) []byte {
	if len(l) == 0 {
		return nil
	}
	var b []byte
	for _, c := range l {
		b = laid(b, uint64(c.First), 8)
		b = laid(b, uint64(len(c.State)), 2)
		b = append(b, c.State...)
	}
	return sealed(b)
}

// laidEntry tells an index with what it says of a row behind it.
func laidEntry(index []byte, r api.Row, blocks [][]byte, cells []byte) []byte {
	index = laid(index, uint64(len(r.Key)), 2)
	index = append(index, r.Key...)
	index = laid(index, uint64(r.Kind), 1)
	index = laid(index, uint64(len(blocks)), word)
	for _, b := range blocks {
		index = laid(index, uint64(len(b)), word)
	}
	index = laid(index, uint64(len(r.Run.Spans)), word)
	for _, x := range r.Run.Spans {
		index = laid(index, uint64(x.From), 8)
		index = laid(index, uint64(x.Last), 8)
	}
	index = laid(index, uint64(len(r.Cells)), word)
	index = laid(index, uint64(len(cells)), word)
	if len(cells) == 0 {
		return laid(index, 0, word)
	}
	return append(index, cells[len(cells)-word:]...)
}

// laid tells bytes with a number of so many bytes behind them, its highest byte first.
func laid(b []byte, x uint64, size int) []byte {
	for size > 0 {
		size--
		b = append(b, byte(x>>(8*size)))
	}
	return b
}

// sealed tells bytes with their Sum behind them.
func sealed(b []byte) []byte { return laid(b, uint64(block.Sum(b)), word) }

// sumOf tells the Sum of the file's head and the index: what stands between them is not in it.
func sumOf(head, index []byte) uint32 { return block.Sum(slices.Concat(head, index)) }
