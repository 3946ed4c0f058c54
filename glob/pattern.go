package glob

import (
	"strata/api"
	"strata/path"
)

// piece is a piece of a pattern: it takes many names, or one that its parts take.
type piece struct {
	many  bool
	parts []part
}

// part is what takes many bytes of a name, or one that is in a set.
type part struct {
	many bool
	set  byteSet
}

// byteSet has a bit for each byte.
type byteSet [4]uint64

// add puts the bytes from low to high into the set.
func (s *byteSet) add(low, high byte) {
	for b := int(low); b <= int(high); b++ {
		s[b/64] |= 1 << (b % 64)
	}
}

// turn puts just those bytes into the set that were not in it.
func (s *byteSet) turn() {
	for i := range s {
		s[i] = ^s[i]
	}
}

// has tells whether a byte is in the set.
func (s *byteSet) has(b byte) bool { return s[b/64]>>(b%64)&1 == 1 }

// readPattern reads a pattern's pieces.
func readPattern(pattern string) ([]piece, error) {
	if len(pattern) > maxPattern {
		return nil, api.ErrPattern
	}
	var pieces []piece
	for text := range path.Pieces(pattern) {
		one, err := readPiece(text)
		if err != nil {
			return nil, err
		}
		pieces = append(pieces, one)
	}
	if len(pieces) == 0 {
		return nil, api.ErrPattern
	}
	return pieces, nil
}

// readPiece reads a piece's parts.
func readPiece(text string) (piece, error) {
	if text == "**" {
		return piece{many: true}, nil
	}
	var parts []part
	for text != "" {
		one, rest, err := readPart(text)
		if err != nil {
			return piece{}, err
		}
		parts, text = append(parts, one), rest
	}
	return piece{parts: parts}, nil
}

// readPart reads the first part of a text, and tells what stands behind it.
func readPart(text string) (part, string, error) {
	var one part
	switch text[0] {
	case '*':
		return part{many: true}, text[1:], nil
	case '?':
		one.set.turn()
		return one, text[1:], nil
	case '[':
		set, rest, err := readSet(text[1:])
		return part{set: set}, rest, err
	}
	b, rest, err := readByte(text)
	one.set.add(b, b)
	return one, rest, err
}

// readByte reads the first byte of a text that isn't empty, or the one that a \ stands ahead of.
func readByte(text string) (byte, string, error) {
	if text[0] == '\\' {
		text = text[1:]
		if text == "" {
			return 0, "", api.ErrPattern
		}
	}
	return text[0], text[1:], nil
}

// readSet reads a set from what stands behind its [, and tells what stands behind its ].
func readSet(text string) (byteSet, string, error) {
	var set byteSet
	turned := text != "" && (text[0] == '!' || text[0] == '^')
	if turned {
		text = text[1:]
	}
	for first := true; text != ""; first = false {
		if text[0] == ']' && !first {
			if turned {
				set.turn()
			}
			return set, text[1:], nil
		}
		low, high, rest, err := readRange(text)
		if err != nil {
			return byteSet{}, "", err
		}
		set.add(low, high)
		text = rest
	}
	return byteSet{}, "", api.ErrPattern
}

// readRange reads a part of a set: its first and its last byte, which are the same if it is a single one.
func readRange(text string) (byte, byte, string, error) {
	low, rest, err := readByte(text)
	if err != nil {
		return 0, 0, "", err
	}
	// A - ahead of the set's end is a byte like others.
	if len(rest) < 2 || rest[0] != '-' || rest[1] == ']' {
		return low, low, rest, nil
	}
	high, rest, err := readByte(rest[1:])
	if err != nil || high < low {
		return 0, 0, "", api.ErrPattern
	}
	return low, high, rest, nil
}

// takeNames tells whether pieces take names, all of them.
func takeNames(pieces []piece, names []string) bool {
	many := func(i int) bool { return pieces[i].many }
	takes := func(i, k int) bool { return takeBytes(pieces[i].parts, names[k]) }
	return take(len(pieces), len(names), many, takes)
}

// takeBytes tells whether parts take a name, all of it.
func takeBytes(parts []part, name string) bool {
	many := func(i int) bool { return parts[i].many }
	takes := func(i, k int) bool { return parts[i].set.has(name[k]) }
	return take(len(parts), len(name), many, takes)
}

// take tells whether takers, one behind the other, take things, all of them: many tells whether a taker takes any of them or none, takes whether one takes just that thing.
//
// Only the last taker of many is ever made to take more: had one ahead of it taken more, those behind would have less to choose from.
func take(takers, things int, many func(int) bool, takes func(int, int) bool) bool {
	// The takers from first on are tried at the thing from; free: a taker of many stands ahead of them.
	first, from, free := 0, 0, false
again:
	for from <= things {
		at := from
		from++
		for i := first; i < takers; i++ {
			switch {
			case many(i):
				first, from, free = i+1, at, true
				continue again
			case at < things && takes(i, at):
				at++
			case free:
				continue again
			default:
				return false
			}
		}
		if at == things || !free {
			return at == things
		}
	}
	return false
}
