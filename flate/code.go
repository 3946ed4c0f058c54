package flate

import "strata/api"

// longest is how many bits a symbol may have.
const longest = 15

// The symbols of literals: bytes, the block's end, lengths.
const (
	endOfBlock  = 256
	firstLength = 257
)

// How many symbols the fixed codes have: more than may be used.
const (
	fixedLiterals  = 288
	fixedDistances = 32
	fixedBits      = 5
)

// span is a run of numbers that one symbol stands for: the first of them, and how many extra bits tell which one it is.
type span struct{ first, extra int }

// lengthSpans are those of the symbols from firstLength on.
var lengthSpans = [...]span{
	{3, 0}, {4, 0}, {5, 0}, {6, 0}, {7, 0}, {8, 0}, {9, 0}, {10, 0},
	{11, 1}, {13, 1}, {15, 1}, {17, 1}, {19, 2}, {23, 2}, {27, 2}, {31, 2},
	{35, 3}, {43, 3}, {51, 3}, {59, 3}, {67, 4}, {83, 4}, {99, 4}, {115, 4},
	{131, 5}, {163, 5}, {195, 5}, {227, 5}, {258, 0},
}

// distanceSpans are those of the symbols of distances.
var distanceSpans = [...]span{
	{1, 0}, {2, 0}, {3, 0}, {4, 0}, {5, 1}, {7, 1}, {9, 2}, {13, 2}, {17, 3}, {25, 3},
	{33, 4}, {49, 4}, {65, 5}, {97, 5}, {129, 6}, {193, 6}, {257, 7}, {385, 7}, {513, 8}, {769, 8},
	{1025, 9}, {1537, 9}, {2049, 10}, {3073, 10}, {4097, 11}, {6145, 11}, {8193, 12}, {12289, 12}, {16385, 13}, {24577, 13},
}

// fixedLiteral is a symbol's bits in the fixed code of literals, the highest first, and how many they are.
func fixedLiteral(symbol int) (bits, size int) {
	switch {
	case symbol < 144:
		return 0x30 + symbol, 8
	case symbol < 256:
		return 0x190 + symbol - 144, 9
	case symbol < 280:
		return symbol - 256, 7
	}
	return 0xc0 + symbol - 280, 8
}

// code is a code as it is read: what a symbol's bits are follows from its place among the symbols of its length.
type code struct {
	counts  [longest + 1]int // how many symbols have so many bits
	symbols []int            // those that have bits: shorter ones ahead, of one length rising
	longest int
}

// codeOf is the code in which the symbols have so many bits.
func codeOf(sizes []int) *code {
	c := &code{}
	for _, size := range sizes {
		c.counts[size]++
		c.longest = max(c.longest, size)
	}
	c.counts[0] = 0
	var places [longest + 2]int
	for size, count := range c.counts {
		places[size+1] = places[size] + count
	}
	c.symbols = make([]int, places[longest+1])
	for symbol, size := range sizes {
		if size > 0 {
			c.symbols[places[size]] = symbol
			places[size]++
		}
	}
	return c
}

// fixedCodes are the codes of blocks that bring none.
func fixedCodes() (literals, distances *code) {
	sizes := make([]int, fixedLiterals)
	for symbol := range sizes {
		_, sizes[symbol] = fixedLiteral(symbol)
	}
	literals = codeOf(sizes)
	sizes = sizes[:fixedDistances]
	for symbol := range sizes {
		sizes[symbol] = fixedBits
	}
	return literals, codeOf(sizes)
}

// whole says whether each row of bits begins with those of a symbol, of just one.
func (c *code) whole() bool {
	sum := 0
	for size, count := range c.counts {
		sum += count << (longest - size)
	}
	return sum == 1<<longest
}

// few says whether no symbol has bits, or one alone has one bit.
func (c *code) few() bool {
	return c.longest == 0 || c.longest == 1 && c.counts[1] == 1
}

// next reads a symbol bit by bit, no bit further than it must to know it or to know that it is none.
func (c *code) next(bits func(n int) (int, error)) (int, error) {
	value, first, place := 0, 0, 0
	for _, count := range c.counts[1 : c.longest+1] {
		bit, err := bits(1)
		if err != nil {
			return 0, err
		}
		value = value<<1 | bit
		if value < first+count {
			return c.symbols[place+value-first], nil
		}
		place += count
		first = (first + count) << 1
	}
	return 0, api.ErrForm
}
