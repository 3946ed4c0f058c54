package flate

import "strata/api"

// How many symbols a block's own codes may have.
const (
	mostLiterals  = 286
	mostDistances = 30
)

// sizeOrder says in which order the sizes of the code of sizes come.
var sizeOrder = [...]int{16, 17, 18, 0, 8, 7, 9, 6, 10, 5, 11, 4, 12, 3, 13, 2, 14, 1, 15}

// repeatAhead is the symbol of the code of sizes that repeats the size ahead; those behind it repeat noughts.
const repeatAhead = 16

// repeatSpans say how many times the symbols from repeatAhead on repeat.
var repeatSpans = [...]span{{3, 2}, {3, 3}, {11, 7}}

// inflater reads blocks; what they say grows in out, up to most bytes.
type inflater struct {
	s         string
	at        int // the next bit
	bits      func(n int) (int, error)
	out       []byte
	most      int
	literals  *code // the fixed codes, once a block has asked for them
	distances *code
}

// newInflater stands at the first bit of s, and hands its bits on: n of them as a number, the lowest first.
func newInflater(s string, most int) *inflater {
	in := &inflater{s: s, most: max(most, 0)}
	in.bits = func(n int) (int, error) {
		if n > 8*len(s)-in.at {
			return 0, api.ErrShort
		}
		value := 0
		for i := range n {
			value |= int(s[in.at>>3]>>(in.at&7)&1) << i
			in.at++
		}
		return value, nil
	}
	return in
}

// used is how many bytes have been read, the last one maybe in part.
func (in *inflater) used() int { return (in.at + 7) / 8 }

// room is how many bytes more may be said.
func (in *inflater) room() int { return in.most - len(in.out) }

// block reads a block, and says whether it is the last.
func (in *inflater) block() (bool, error) {
	head, err := in.bits(3)
	if err != nil {
		return false, err
	}
	switch head >> 1 {
	case 0:
		err = in.stored()
	case 1:
		if in.literals == nil {
			in.literals, in.distances = fixedCodes()
		}
		err = in.coded(in.literals, in.distances)
	case 2:
		err = in.own()
	default:
		err = api.ErrForm
	}
	return head&1 == 1, err
}

// stored reads a block of bytes as they are.
func (in *inflater) stored() error {
	in.at = 8 * in.used()
	size, err := in.bits(16)
	if err != nil {
		return err
	}
	turned, err := in.bits(16)
	if err != nil {
		return err
	}
	if turned != size^0xffff {
		return api.ErrForm
	}
	from := in.at / 8
	left := len(in.s) - from
	// Each byte needs room ahead of being wanted, so where both end at one byte it is the room that is told.
	if size > in.room() && in.room() <= left {
		return api.ErrMany
	}
	if size > left {
		return api.ErrShort
	}
	in.out = append(in.out, in.s[from:from+size]...)
	in.at += 8 * size
	return nil
}

// own reads a block that brings its codes.
func (in *inflater) own() error {
	head, err := in.bits(14)
	if err != nil {
		return err
	}
	literals, distances := head&31+257, head>>5&31+1
	if literals > mostLiterals || distances > mostDistances {
		return api.ErrForm
	}
	c, err := in.codeOfSizes(head>>10 + 4)
	if err != nil {
		return err
	}
	sizes, err := in.sizes(c, literals+distances)
	if err != nil {
		return err
	}
	literal, distance := codeOf(sizes[:literals]), codeOf(sizes[literals:])
	if sizes[endOfBlock] == 0 || !literal.whole() || !distance.whole() && !distance.few() {
		return api.ErrForm
	}
	return in.coded(literal, distance)
}

// codeOfSizes reads the code in which the sizes of a block's codes are told; n of its own sizes come.
func (in *inflater) codeOfSizes(n int) (*code, error) {
	sizes := make([]int, len(sizeOrder))
	for i := range n {
		size, err := in.bits(3)
		if err != nil {
			return nil, err
		}
		sizes[sizeOrder[i]] = size
	}
	c := codeOf(sizes)
	if !c.whole() {
		return nil, api.ErrForm
	}
	return c, nil
}

// sizes reads n sizes, those of literals and of distances in one row: a repetition may go from the ones into the others.
func (in *inflater) sizes(c *code, n int) ([]int, error) {
	sizes := make([]int, 0, n)
	for len(sizes) < n {
		size, err := c.next(in.bits)
		if err != nil {
			return nil, err
		}
		times := 1
		if size >= repeatAhead {
			if times, err = in.number(repeatSpans[size-repeatAhead]); err != nil {
				return nil, err
			}
			if size != repeatAhead {
				size = 0
			} else if len(sizes) > 0 {
				size = sizes[len(sizes)-1]
			} else {
				return nil, api.ErrForm
			}
		}
		if times > n-len(sizes) {
			return nil, api.ErrForm
		}
		for range times {
			sizes = append(sizes, size)
		}
	}
	return sizes, nil
}

// coded reads symbols up to the block's end.
func (in *inflater) coded(literals, distances *code) error {
	for {
		symbol, err := literals.next(in.bits)
		if err != nil {
			return err
		}
		switch {
		case symbol == endOfBlock:
			return nil
		case symbol >= firstLength:
			err = in.again(symbol-firstLength, distances)
		case in.room() == 0:
			err = api.ErrMany
		default:
			in.out = append(in.out, byte(symbol))
		}
		if err != nil {
			return err
		}
	}
}

// number reads which one of a span's numbers it is.
func (in *inflater) number(of span) (int, error) {
	extra, err := in.bits(of.extra)
	return of.first + extra, err
}

// again reads the rest of a length, and a distance, and says once more what stands there.
func (in *inflater) again(symbol int, c *code) error {
	if symbol >= len(lengthSpans) {
		return api.ErrForm
	}
	length, err := in.number(lengthSpans[symbol])
	if err != nil {
		return err
	}
	if symbol, err = c.next(in.bits); err != nil {
		return err
	}
	if symbol >= len(distanceSpans) {
		return api.ErrForm
	}
	distance, err := in.number(distanceSpans[symbol])
	if err != nil {
		return err
	}
	if distance > len(in.out) {
		return api.ErrForm
	}
	if length > in.room() {
		return api.ErrMany
	}
	in.repeat(length, distance)
	return nil
}

// repeat says length bytes from distance back on; where they are more than that, they say themselves on.
func (in *inflater) repeat(length, distance int) {
	from := len(in.out) - distance
	for length > 0 {
		piece := in.out[from:min(from+length, len(in.out))]
		in.out = append(in.out, piece...)
		length -= len(piece)
	}
}
