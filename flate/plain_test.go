package flate_test

import (
	"fmt"
	"slices"
	"strings"

	"strata/api"
)

// This file says once more, slowly and in another way, what the chapter asks: bits are a text of 0 and 1, a code is a map from such texts.

// bitsOf are the bits of bytes as a text, the lowest of each byte first.
func bitsOf(s string) string {
	var b strings.Builder
	for i := range len(s) {
		for k := range 8 {
			b.WriteByte('0' + s[i]>>k&1)
		}
	}
	return b.String()
}

// bytesOf are the bytes of such a text, with noughts up to the last byte's end.
func bytesOf(bits string) string {
	b := make([]byte, (len(bits)+7)/8)
	for i := range len(bits) {
		b[i/8] |= (bits[i] - '0') << (i % 8)
	}
	return string(b)
}

// number is a number as n bits, the lowest first.
func number(v, n int) string {
	s := ""
	for i := range n {
		s += string('0' + byte(v>>i&1))
	}
	return s
}

// plainCode gives out the bits of symbols with so many bits each: counting up, and a nought more for each bit more.
func plainCode(sizes []int) map[string]int {
	code := map[string]int{}
	next := 0
	for size := 1; size <= 15; size++ {
		for symbol, n := range sizes {
			if n == size {
				code[fmt.Sprintf("%0*b", size, next)] = symbol
				next++
			}
		}
		next *= 2
	}
	return code
}

// turned is a code from symbols to bits.
func turned(code map[string]int) map[int]string {
	m := map[int]string{}
	for bits, symbol := range code {
		m[symbol] = bits
	}
	return m
}

// wholeSizes says whether the parts that symbols take are one together.
func wholeSizes(sizes []int) bool {
	sum := 0.0
	for _, n := range sizes {
		if n > 0 {
			sum += 1 / float64(int(1)<<n)
		}
	}
	return sum == 1
}

// The fixed codes.
var fixedLiterals, fixedDistances = fixedCodes()

func fixedCodes() (literals, distances map[string]int) {
	sizes := make([]int, 288)
	for i := range sizes {
		switch {
		case i <= 143 || i >= 280:
			sizes[i] = 8
		case i <= 255:
			sizes[i] = 9
		default:
			sizes[i] = 7
		}
	}
	return plainCode(sizes), plainCode(slices.Repeat([]int{5}, 32))
}

// plainSpans are rows of numbers that begin at first, the symbols' extra bits given; each row begins where the one ahead ended.
func plainSpans(first int, extras []int) [][2]int {
	var spans [][2]int
	for _, n := range extras {
		spans = append(spans, [2]int{first, n})
		first += 1 << n
	}
	return spans
}

func plainLengths() [][2]int {
	extras := make([]int, 8)
	for n := 1; n <= 5; n++ {
		extras = append(extras, n, n, n, n)
	}
	return append(plainSpans(3, extras), [2]int{258, 0})
}

func plainDistances() [][2]int {
	extras := make([]int, 4)
	for n := 1; n <= 13; n++ {
		extras = append(extras, n, n)
	}
	return plainSpans(1, extras)
}

// spanOf is the greatest symbol that can say n, and its extra bits.
func spanOf(spans [][2]int, n int) (int, string) {
	for i := len(spans) - 1; ; i-- {
		if n >= spans[i][0] {
			return i, number(n-spans[i][0], spans[i][1])
		}
	}
}

// plainStored is the stored form.
func plainStored(s string) string {
	out := ""
	for len(s) >= 65536 {
		out += "\x00\xff\xff\x00\x00" + s[:65535]
		s = s[65535:]
	}
	n := len(s)
	return out + "\x01" + string([]byte{byte(n), byte(n >> 8), ^byte(n), ^byte(n >> 8)}) + s
}

// plainShort is the short form.
func plainShort(s string) string {
	literal, lengths, distances := turned(fixedLiterals), plainLengths(), plainDistances()
	var out strings.Builder
	out.WriteString("110")
	places := map[string][]int{}
	note := func(from, to int) {
		for i := from; i < to && i+3 <= len(s); i++ {
			places[s[i:i+3]] = append(places[s[i:i+3]], i)
		}
	}
	for at := 0; at < len(s); {
		most, back := 0, 0
		if at+3 <= len(s) {
			list := places[s[at:at+3]]
			for k := len(list) - 1; k >= 0 && k >= len(list)-64 && at-list[k] <= 32768; k-- {
				n := 0
				for n < 258 && at+n < len(s) && s[list[k]+n] == s[at+n] {
					n++
				}
				if n > most {
					most, back = n, at-list[k]
				}
			}
		}
		if most == 0 {
			out.WriteString(literal[int(s[at])])
			most = 1
		} else {
			i, extra := spanOf(lengths, most)
			out.WriteString(literal[257+i] + extra)
			i, extra = spanOf(distances, back)
			out.WriteString(fmt.Sprintf("%05b", i) + extra)
		}
		note(at, at+most)
		at += most
	}
	out.WriteString(literal[256])
	return bytesOf(out.String())
}

// plainDeflate is the shorter form; the stored one, if they have the same length.
func plainDeflate(s string) string {
	stored, short := plainStored(s), plainShort(s)
	if len(stored) <= len(short) {
		return stored
	}
	return short
}

// plainReader reads bits; what is wrong is given up by a panic with its number.
type plainReader struct {
	bits string
	at   int
	out  []byte
	most int
}

func (r *plainReader) take(n int) string {
	if r.at+n > len(r.bits) {
		panic(api.ErrShort)
	}
	r.at += n
	return r.bits[r.at-n : r.at]
}

func (r *plainReader) number(n int) int {
	v := 0
	for i, b := range r.take(n) {
		v += int(b-'0') << i
	}
	return v
}

func (r *plainReader) symbol(code map[string]int) int {
	if len(code) == 0 {
		panic(api.ErrForm)
	}
	for bits := r.take(1); ; bits += r.take(1) {
		if symbol, there := code[bits]; there {
			return symbol
		}
		if len(code) == 1 {
			panic(api.ErrForm)
		}
	}
}

func (r *plainReader) say(b byte) {
	if len(r.out) == r.most {
		panic(api.ErrMany)
	}
	r.out = append(r.out, b)
}

func (r *plainReader) refuseIf(wrong bool) {
	if wrong {
		panic(api.ErrForm)
	}
}

func (r *plainReader) stored() {
	for r.at%8 != 0 {
		r.at++
	}
	n, m := r.number(16), r.number(16)
	r.refuseIf(n+m != 65535 || n&m != 0)
	for range n {
		if len(r.out) == r.most {
			panic(api.ErrMany)
		}
		r.say(byte(r.number(8)))
	}
}

func (r *plainReader) own() (literals, distances map[string]int) {
	nl, nd, nc := r.number(5)+257, r.number(5)+1, r.number(4)+4
	r.refuseIf(nl > 286 || nd > 30)
	sizes := make([]int, 19)
	for _, symbol := range []int{16, 17, 18, 0, 8, 7, 9, 6, 10, 5, 11, 4, 12, 3, 13, 2, 14, 1, 15}[:nc] {
		sizes[symbol] = r.number(3)
	}
	r.refuseIf(!wholeSizes(sizes))
	code := plainCode(sizes)
	var all []int
	for len(all) < nl+nd {
		symbol := r.symbol(code)
		times := 1
		switch symbol {
		case 16:
			times = 3 + r.number(2)
			r.refuseIf(len(all) == 0)
			symbol = all[len(all)-1]
		case 17:
			times, symbol = 3+r.number(3), 0
		case 18:
			times, symbol = 11+r.number(7), 0
		}
		for range times {
			all = append(all, symbol)
		}
		r.refuseIf(len(all) > nl+nd)
	}
	ls, ds := all[:nl], all[nl:]
	distances = plainCode(ds)
	_, one := distances["0"]
	r.refuseIf(ls[256] == 0)
	r.refuseIf(!wholeSizes(ls))
	r.refuseIf(!wholeSizes(ds) && len(distances) != 0 && !(len(distances) == 1 && one))
	return plainCode(ls), distances
}

func (r *plainReader) coded(literals, distances map[string]int) {
	for {
		symbol := r.symbol(literals)
		if symbol == 256 {
			return
		}
		if symbol < 256 {
			r.say(byte(symbol))
			continue
		}
		r.refuseIf(symbol > 285)
		span := plainLengths()[symbol-257]
		length := span[0] + r.number(span[1])
		symbol = r.symbol(distances)
		r.refuseIf(symbol > 29)
		span = plainDistances()[symbol]
		back := span[0] + r.number(span[1])
		r.refuseIf(back > len(r.out))
		if len(r.out)+length > r.most {
			panic(api.ErrMany)
		}
		for range length {
			r.say(r.out[len(r.out)-back])
		}
	}
}

// plainInflate is what Inflate must answer.
func plainInflate(s string, most int) (text string, n int, no api.Errno) {
	r := &plainReader{bits: bitsOf(s), most: max(most, 0)}
	defer func() {
		if p := recover(); p != nil {
			text, n, no = "", 0, p.(api.Errno)
		}
	}()
	for last := false; !last; {
		last = r.number(1) == 1
		switch r.number(2) {
		case 0:
			r.stored()
		case 1:
			r.coded(fixedLiterals, fixedDistances)
		case 2:
			r.coded(r.own())
		case 3:
			panic(api.ErrForm)
		}
	}
	return string(r.out), (r.at + 7) / 8, 0
}
