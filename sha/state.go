package sha

import "math/bits"

const (
	blockSize = 64
	countSize = 8
	rounds    = 64
)

// cubeRoots is the first 32 bits of the fractional parts of the cube roots of the first 64 primes.
var cubeRoots = [rounds]uint32{
	0x428a2f98, 0x71374491, 0xb5c0fbcf, 0xe9b5dba5, 0x3956c25b, 0x59f111f1, 0x923f82a4, 0xab1c5ed5,
	0xd807aa98, 0x12835b01, 0x243185be, 0x550c7dc3, 0x72be5d74, 0x80deb1fe, 0x9bdc06a7, 0xc19bf174,
	0xe49b69c1, 0xefbe4786, 0x0fc19dc6, 0x240ca1cc, 0x2de92c6f, 0x4a7484aa, 0x5cb0a9dc, 0x76f988da,
	0x983e5152, 0xa831c66d, 0xb00327c8, 0xbf597fc7, 0xc6e00bf3, 0xd5a79147, 0x06ca6351, 0x14292967,
	0x27b70a85, 0x2e1b2138, 0x4d2c6dfc, 0x53380d13, 0x650a7354, 0x766a0abb, 0x81c2c92e, 0x92722c85,
	0xa2bfe8a1, 0xa81a664b, 0xc24b8b70, 0xc76c51a3, 0xd192e819, 0xd6990624, 0xf40e3585, 0x106aa070,
	0x19a4c116, 0x1e376c08, 0x2748774c, 0x34b0bcb5, 0x391c0cb3, 0x4ed8aa4a, 0x5b9cca4f, 0x682e6ff3,
	0x748f82ee, 0x78a5636f, 0x84c87814, 0x8cc70208, 0x90befffa, 0xa4506ceb, 0xbef9a3f7, 0xc67178f2,
}

// state is a sum under way: texts are taken block by block, so that long ones needn't be joined.
type state struct {
	sums  [8]uint32
	block [blockSize]byte
	used  int
	total uint64
}

// start has the first 32 bits of the fractional parts of the square roots of the first eight primes.
func start() state {
	return state{sums: [8]uint32{
		0x6a09e667, 0xbb67ae85, 0x3c6ef372, 0xa54ff53a, 0x510e527f, 0x9b05688c, 0x1f83d9ab, 0x5be0cd19,
	}}
}

func (s *state) take(text string) {
	s.total += uint64(len(text))
	for len(text) > 0 {
		n := copy(s.block[s.used:], text)
		text = text[n:]
		s.used += n
		s.mixFull()
	}
}

func (s *state) put(b byte) {
	s.block[s.used] = b
	s.used++
	s.mixFull()
}

func (s *state) mixFull() {
	if s.used == blockSize {
		s.mix()
		s.used = 0
	}
}

func (s *state) finish() Digest {
	bitCount := 8 * s.total
	s.put(0x80)
	for s.used != blockSize-countSize {
		s.put(0)
	}
	for i := range countSize {
		s.put(byte(bitCount >> (56 - 8*i)))
	}
	var d Digest
	for i := range Size {
		d[i] = byte(s.sums[i/4] >> (24 - 8*(i%4)))
	}
	return d
}

func (s *state) mix() {
	words := s.words()
	a, b, c, d := s.sums[0], s.sums[1], s.sums[2], s.sums[3]
	e, f, g, h := s.sums[4], s.sums[5], s.sums[6], s.sums[7]
	for i := range rounds {
		t := h + (turn(e, 6) ^ turn(e, 11) ^ turn(e, 25)) + ((e & f) ^ (^e & g)) + cubeRoots[i] + words[i]
		u := (turn(a, 2) ^ turn(a, 13) ^ turn(a, 22)) + ((a & b) ^ (a & c) ^ (b & c))
		h, g, f, e, d, c, b, a = g, f, e, d+t, c, b, a, t+u
	}
	more := [8]uint32{a, b, c, d, e, f, g, h}
	for i := range more {
		s.sums[i] += more[i]
	}
}

func (s *state) words() [rounds]uint32 {
	var w [rounds]uint32
	for i := range blockSize {
		w[i/4] = w[i/4]<<8 | uint32(s.block[i])
	}
	for i := 16; i < rounds; i++ {
		early, late := w[i-15], w[i-2]
		w[i] = w[i-16] + (turn(early, 7) ^ turn(early, 18) ^ early>>3) +
			w[i-7] + (turn(late, 17) ^ turn(late, 19) ^ late>>10)
	}
	return w
}

func turn(x uint32, n int) uint32 { return bits.RotateLeft32(x, -n) }
