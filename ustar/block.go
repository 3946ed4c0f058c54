package ustar

import (
	"bytes"
	"strconv"
	"strings"
)

const blockSize = 512

// magic stands in the fields magic and version, which are one to this package: the one is told with the other.
const magic = "ustar\x0000"

// block is a header as it is written.
type block [blockSize]byte

// field is one of a block's fields.
type field int

// The fields, in the order in which they stand.
const (
	fieldName field = iota
	fieldMode
	fieldUid
	fieldGid
	fieldSize
	fieldTime
	fieldSum
	fieldType
	fieldLink
	fieldMagic
	fieldUser
	fieldGroup
	fieldMajor
	fieldMinor
	fieldPrefix
	fieldRest
)

// begins says where each field begins, and behind them where the block ends.
var begins = [...]int{0, 100, 108, 116, 124, 136, 148, 156, 157, 257, 265, 297, 329, 337, 345, 500, blockSize}

// room is how many bytes a field has.
func (f field) room() int { return begins[f+1] - begins[f] }

// most is the greatest number that a field can have: octal digits in all its bytes but the last one.
func (f field) most() int64 { return 1<<(3*(f.room()-1)) - 1 }

// bytes are a field's own, not a copy.
func (b *block) bytes(f field) []byte { return b[begins[f]:begins[f+1]] }

// putText lays a text into a field that is still empty.
func (b *block) putText(f field, s string) { copy(b.bytes(f), s) }

// putNumber fills a field with a number's digits, and leaves its last byte 0.
func (b *block) putNumber(f field, n int64) { copy(b.bytes(f), octal(n, f.room()-1)) }

// putSum fills in the sum, once all else stands there.
func (b *block) putSum() { copy(b.bytes(fieldSum), octal(b.sum(), 6)+"\x00 ") }

// octal is a number with as many noughts ahead of it that it has that many digits.
func octal(n int64, digits int) string {
	s := strconv.FormatInt(n, 8)
	return strings.Repeat("0", max(0, digits-len(s))) + s
}

// sum adds up all bytes, as if its own field had blanks.
func (b *block) sum() int64 {
	sum := int64(' ') * int64(fieldSum.room())
	for i, c := range b {
		if i < begins[fieldSum] || i >= begins[fieldSum+1] {
			sum += int64(c)
		}
	}
	return sum
}

// text is what a field has ahead of its first byte 0.
func (b *block) text(f field) string {
	s, _, _ := bytes.Cut(b.bytes(f), []byte{0})
	return string(s)
}

// number reads a field's digits, which may have blanks ahead of them, blanks and bytes 0 behind; false: that is not its form.
func (b *block) number(f field) (int64, bool) {
	digits := bytes.TrimRight(bytes.TrimLeft(b.bytes(f), " "), "\x00 ")
	if len(digits) == 0 {
		return 0, false
	}
	// A field has at most 12 digits, so no number is beyond 36 bits.
	n := int64(0)
	for _, c := range digits {
		if c < '0' || c > '7' {
			return 0, false
		}
		n = n<<3 | int64(c-'0')
	}
	return n, true
}
