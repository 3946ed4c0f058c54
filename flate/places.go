package flate

import "math/bits"

const (
	window    = 32768 // how far back may be told
	mostTries = 64    // how many places are looked at
	least     = 3     // how many bytes must be the same
	mostSame  = 258   // how many may be told at once
)

// nowhere stands for a place that lies too far back for all others.
const nowhere = -window - 1

// kept is how many places are known: more than a window, so that a place takes no room from those that it may lead back to.
const kept = 2 * window

// places knows of each place of a text where the same three bytes stood ahead of it.
// Where any three bytes stood last, is found in rows: three bytes stand in one row only, others may stand in it, too;
// a row has its nearest place first, and no three bytes twice, so that even a row of many is soon gone through.
type places struct {
	s      string
	rows   []int32 // where each row begins
	behind []int32 // of a place: the one behind it in its row
	before []int32 // of a place: where its three bytes stood ahead of it
}

// newPlaces has more rows for a longer text, but not more than a window can fill.
func newPlaces(s string) *places {
	p := &places{
		s:      s,
		rows:   make([]int32, 1<<bits.Len(uint(min(len(s), window-1)))),
		behind: make([]int32, min(len(s), kept)),
		before: make([]int32, min(len(s), kept)),
	}
	for i := range p.rows {
		p.rows[i] = nowhere
	}
	return p
}

// three is the bytes at a place as a number.
func (p *places) three(at int32) uint32 {
	return uint32(p.s[at]) | uint32(p.s[at+1])<<8 | uint32(p.s[at+2])<<16
}

// row says in which row three bytes stand: an odd number, times and cut off, scatters them.
func (p *places) row(three uint32) int {
	return int(three*0x9e3779b1>>16) % len(p.rows)
}

// note takes the next place in, at the beginning of its row.
func (p *places) note(place int) {
	at := int32(place)
	p.before[at%kept] = nowhere
	if len(p.s)-place < least {
		return
	}
	three := p.three(at)
	row := p.row(three)
	last, ahead := p.rows[row], int32(nowhere)
	for last >= at-window && p.three(last) != three {
		last, ahead = p.behind[last%kept], last
	}
	if last >= at-window {
		p.before[at%kept] = last
		p.drop(row, ahead, last) // at stands for these bytes from here on
	}
	p.behind[at%kept] = p.rows[row]
	p.rows[row] = at
}

// drop takes a place out of its row; ahead of it stands another, or none.
func (p *places) drop(row int, ahead, at int32) {
	if ahead == nowhere {
		p.rows[row] = p.behind[at%kept]
	} else {
		p.behind[ahead%kept] = p.behind[at%kept]
	}
}

// best is the length of the most bytes that stood ahead of the place noted last, and how far back; 0, if there are none.
func (p *places) best(at int) (length, distance int) {
	most := min(mostSame, len(p.s)-at)
	from := int(p.before[at%kept])
	for range mostTries {
		if at-from > window || length == most {
			break
		}
		if same := p.same(from, at, length, most); same > length {
			length, distance = same, at-from
		}
		from = int(p.before[from%kept])
	}
	return length, distance
}

// same is how many bytes, up to most, are the same from two places on; 0, if they are no more than beat.
func (p *places) same(a, b, beat, most int) int {
	if p.s[a+beat] != p.s[b+beat] {
		return 0
	}
	n := 0
	for n < most && p.s[a+n] == p.s[b+n] {
		n++
	}
	return n
}
