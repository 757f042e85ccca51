// Package pack is layer 2: see shared/doc/02-pack.md.
package pack

// lowBits is what a byte holds of a number, moreBit that another byte follows.
const (
	bitsPerByte = 7
	lowBits     = 0x7f
	moreBit     = 0x80
	mostBytes   = 9
)

// wordBits is how many bits of a number with a sign each of its two numbers holds.
const (
	wordBits = 32
	mostWord = 1<<wordBits - 1
)
