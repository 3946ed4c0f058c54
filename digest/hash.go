package digest

import (
	"math/bits"

	"strata/api"
)

const (
	rounds     = 64
	blockSize  = 64
	lengthSize = 8 // bytes at the end of the last block that tell how long the text is
)

// roundNumbers are K0 .. K63: the first 32 bits behind the point of the cube roots of the first 64 primes.
var roundNumbers = [rounds]uint32{
	0x428a2f98, 0x71374491, 0xb5c0fbcf, 0xe9b5dba5, 0x3956c25b, 0x59f111f1, 0x923f82a4, 0xab1c5ed5,
	0xd807aa98, 0x12835b01, 0x243185be, 0x550c7dc3, 0x72be5d74, 0x80deb1fe, 0x9bdc06a7, 0xc19bf174,
	0xe49b69c1, 0xefbe4786, 0x0fc19dc6, 0x240ca1cc, 0x2de92c6f, 0x4a7484aa, 0x5cb0a9dc, 0x76f988da,
	0x983e5152, 0xa831c66d, 0xb00327c8, 0xbf597fc7, 0xc6e00bf3, 0xd5a79147, 0x06ca6351, 0x14292967,
	0x27b70a85, 0x2e1b2138, 0x4d2c6dfc, 0x53380d13, 0x650a7354, 0x766a0abb, 0x81c2c92e, 0x92722c85,
	0xa2bfe8a1, 0xa81a664b, 0xc24b8b70, 0xc76c51a3, 0xd192e819, 0xd6990624, 0xf40e3585, 0x106aa070,
	0x19a4c116, 0x1e376c08, 0x2748774c, 0x34b0bcb5, 0x391c0cb3, 0x4ed8aa4a, 0x5b9cca4f, 0x682e6ff3,
	0x748f82ee, 0x78a5636f, 0x84c87814, 0x8cc70208, 0x90befffa, 0xa4506ceb, 0xbef9a3f7, 0xc67178f2,
}

// Hash takes a text piece by piece.
type Hash struct {
	width  int
	length uint64 // bytes that were written so far
	sums   [8]uint32
	block  [blockSize]byte // what the sums have not taken in yet stands at its beginning
}

// New is a hash of a width.
func New(width int) *Hash {
	// The sums are at first the first 32 bits behind the point of the square roots of the first eight primes.
	return &Hash{
		width: max(1, min(width, len(api.Digest{}))),
		sums: [8]uint32{
			0x6a09e667, 0xbb67ae85, 0x3c6ef372, 0xa54ff53a, 0x510e527f, 0x9b05688c, 0x1f83d9ab, 0x5be0cd19,
		},
	}
}

// Write takes more of the text.
func (h *Hash) Write(s string) {
	for s != "" {
		taken := copy(h.block[h.filled():], s)
		s = s[taken:]
		h.length += uint64(taken)
		if h.filled() == 0 {
			h.takeBlock()
		}
	}
}

// filled is how many bytes of the block wait to be taken in.
func (h *Hash) filled() int { return int(h.length % blockSize) }

// Sum is the digest of what was written so far.
func (h *Hash) Sum() api.Digest {
	// The end is put behind a copy, so that the hash may be written into on.
	end := *h
	end.finish()
	var d api.Digest
	for i := range h.width {
		d[i] = byte(end.sums[i/4] >> (24 - i%4*8))
	}
	return d
}

// finish takes in what stands behind every text: a byte 128, bytes 0, the length in bits.
func (h *Hash) finish() {
	filled := h.filled()
	h.block[filled] = 128
	clear(h.block[filled+1:])
	if filled+1 > blockSize-lengthSize {
		h.takeBlock()
		clear(h.block[:])
	}
	for i := range lengthSize {
		h.block[blockSize-1-i] = byte(h.length * 8 >> (i * 8))
	}
	h.takeBlock()
}

// takeBlock takes the whole block into the sums.
func (h *Hash) takeBlock() {
	words := spread(&h.block)
	a, b, c, d := h.sums[0], h.sums[1], h.sums[2], h.sums[3]
	e, f, g, last := h.sums[4], h.sums[5], h.sums[6], h.sums[7]
	for t := range words {
		one := last + turnLow(e) + ((e & f) ^ (^e & g)) + roundNumbers[t] + words[t]
		two := turnHigh(a) + ((a & b) ^ (a & c) ^ (b & c))
		last, g, f, e = g, f, e, d+one
		d, c, b, a = c, b, a, one+two
	}
	for i, x := range [8]uint32{a, b, c, d, e, f, g, last} {
		h.sums[i] += x
	}
}

// spread makes a block's 16 numbers into those of all rounds.
func spread(block *[blockSize]byte) [rounds]uint32 {
	var words [rounds]uint32
	for t := range words {
		if t < 16 {
			at := block[4*t : 4*t+4]
			words[t] = uint32(at[0])<<24 | uint32(at[1])<<16 | uint32(at[2])<<8 | uint32(at[3])
			continue
		}
		words[t] = shiftLow(words[t-2]) + words[t-7] + shiftHigh(words[t-15]) + words[t-16]
	}
	return words
}

// turnHigh is S0 of the standard.
func turnHigh(x uint32) uint32 { return turn(x, 2) ^ turn(x, 13) ^ turn(x, 22) }

// turnLow is S1 of the standard.
func turnLow(x uint32) uint32 { return turn(x, 6) ^ turn(x, 11) ^ turn(x, 25) }

// shiftHigh is s0 of the standard.
func shiftHigh(x uint32) uint32 { return turn(x, 7) ^ turn(x, 18) ^ x>>3 }

// shiftLow is s1 of the standard.
func shiftLow(x uint32) uint32 { return turn(x, 17) ^ turn(x, 19) ^ x>>10 }

// turn turns a number to the right.
func turn(x uint32, n int) uint32 { return bits.RotateLeft32(x, -n) }
