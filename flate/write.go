package flate

import (
	"math/bits"
	"sort"
	"strings"
)

// mostStored is how many bytes a stored block may have.
const mostStored = 65535

// storedSize is how many bytes the stored form has.
func storedSize(s string) int {
	blocks := max(1, (len(s)+mostStored-1)/mostStored)
	return len(s) + 5*blocks
}

// storedForm is a text as it is, in blocks.
func storedForm(s string) string {
	var out strings.Builder
	out.Grow(storedSize(s))
	for len(s) > mostStored {
		storeBlock(&out, 0, s[:mostStored])
		s = s[mostStored:]
	}
	storeBlock(&out, 1, s)
	return out.String()
}

// storeBlock writes a stored block; last is 1, if none comes behind it.
func storeBlock(out *strings.Builder, last byte, s string) {
	size := uint16(len(s))
	out.WriteByte(last)
	for _, n := range []uint16{size, ^size} {
		out.WriteByte(byte(n))
		out.WriteByte(byte(n >> 8))
	}
	out.WriteString(s)
}

// putter takes the lowest n bits of a number on, the lowest first.
type putter func(number, n int)

// shortForm is a text in one block of the fixed codes, told by what stood ahead.
func shortForm(s string) string {
	var out []byte
	held, count := 0, 0
	put := putter(func(number, n int) {
		held |= number << count
		for count += n; count >= 8; count -= 8 {
			out = append(out, byte(held))
			held >>= 8
		}
	})
	put(3, 3) // the last block, of kind 1
	p := newPlaces(s)
	next := 0
	for at := range len(s) {
		p.note(at)
		if at < next {
			continue
		}
		length, distance := p.best(at)
		if length > 0 {
			put.again(length, distance)
		} else {
			put.literal(int(s[at]))
		}
		next = at + max(length, 1)
	}
	put.literal(endOfBlock)
	put(0, 7) // what is held goes out
	return string(out)
}

// code puts a symbol's bits, which come highest first.
func (put putter) code(value, n int) {
	put(int(bits.Reverse16(uint16(value))>>(16-n)), n)
}

// literal puts a symbol of literals.
func (put putter) literal(symbol int) { put.code(fixedLiteral(symbol)) }

// again puts a length and a distance, each as the greatest symbol that can say it.
func (put putter) again(length, distance int) {
	i := sort.Search(len(lengthSpans), func(i int) bool { return lengthSpans[i].first > length }) - 1
	put.literal(firstLength + i)
	put(length-lengthSpans[i].first, lengthSpans[i].extra)
	i = sort.Search(len(distanceSpans), func(i int) bool { return distanceSpans[i].first > distance }) - 1
	put.code(i, fixedBits)
	put(distance-distanceSpans[i].first, distanceSpans[i].extra)
}
