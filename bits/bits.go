// Package bits: streams of bits: see ../../shared/doc/01-bits.md.
package bits

// A Var's groups, as both Writer and Reader see them.
const (
	groupWide = 8    // bits of a group
	groupHeld = 7    // bits of the number in it
	groupMask = 0x7f // where these stand
	groupMore = 0x80 // another group follows
	topPlace  = 63   // where the tenth group's bits would stand: one bit is left there
)

// maxWidth is the widest number that is laid or taken at once.
const maxWidth = 64

// lowOnes tells a byte whose k lowest bits are 1, k from 1 to 8.
func lowOnes(k int) byte { return 0xff >> (8 - k) }
