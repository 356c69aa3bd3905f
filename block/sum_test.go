package block_test

import (
	"hash/crc32"
	"math/rand"
	"testing"

	"fathom/block"
)

// sumByBits tells a Sum as the chapter words it, bit by bit.
func sumByBits(b []byte) uint32 {
	x := uint32(0xffffffff)
	for _, c := range b {
		x ^= uint32(c)
		for range 8 {
			dropped := x % 2
			x /= 2
			if dropped == 1 {
				x ^= 0xedb88320
			}
		}
	}
	return ^x
}

// The chapter's example 3.
func TestExamplesOfSum(t *testing.T) {
	if x := block.Sum(nil); x != 0 {
		t.Errorf("of none: %x", x)
	}
	if x := block.Sum([]byte("123456789")); x != 0xcbf43926 {
		t.Errorf("of 123456789: %x", x)
	}
}

// Sum is the chapter's and the library's, of each byte, each two, and rows of all lengths.
func TestSum(t *testing.T) {
	for x := range 1 << 16 {
		b := []byte{byte(x >> 8), byte(x)}
		if block.Sum(b) != sumByBits(b) || block.Sum(b[1:]) != sumByBits(b[1:]) {
			t.Fatalf("of %x", b)
		}
	}
	rnd := rand.New(rand.NewSource(9))
	for n := range 600 {
		b := make([]byte, n)
		rnd.Read(b)
		if x := block.Sum(b); x != sumByBits(b) || x != crc32.ChecksumIEEE(b) {
			t.Fatalf("of %x: %x", b, x)
		}
	}
	long := make([]byte, 1<<20)
	if block.Sum(long) != crc32.ChecksumIEEE(long) {
		t.Error("of many noughts")
	}
}
