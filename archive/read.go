package archive

import (
	"iter"

	"strata/api"
	"strata/ustar"
)

// members hands out the members of an archive, and last of all what is wrong with it, if anything is.
func members(s string) iter.Seq2[api.Member, error] {
	return func(yield func(api.Member, error) bool) {
		if len(s) > api.MaxArchive {
			yield(api.Member{}, atPlace(api.ErrMany, api.MaxArchive))
			return
		}
		r := &reader{bytes: []byte(s)}
		for {
			m, more, err := r.next()
			if err != nil {
				yield(api.Member{}, err)
				return
			}
			if !more || !yield(m, nil) {
				return
			}
		}
	}
}

// reader takes blocks from the beginning of an archive on.
type reader struct {
	bytes []byte
	at    int
}

// take is the next so many blocks, cut off at their end; false, and nothing is taken, if they are not all there, whole.
func (r *reader) take(blocks int64) ([]byte, bool) {
	if blocks > int64(len(r.bytes)-r.at)/blockSize {
		return nil, false
	}
	begin := r.at
	r.at += int(blocks) * blockSize
	return r.bytes[begin:r.at:r.at], true
}

// next is the next member; false, if the end is there instead, or something is wrong.
func (r *reader) next() (api.Member, bool, error) {
	begin := r.at
	block, ok := r.take(1)
	if !ok {
		return api.Member{}, false, atPlace(api.ErrShort, begin)
	}
	if blank(block) {
		return api.Member{}, false, r.end()
	}
	header, err := ustar.Decode(string(block))
	if err != nil {
		return api.Member{}, false, atPlace(err, begin)
	}
	data, ok := r.take(blocksFor(header.Size))
	if !ok {
		return api.Member{}, false, atPlace(api.ErrShort, r.at)
	}
	return api.Member{Header: header, Data: string(data[:header.Size])}, true, nil
}

// end is what is wrong behind the end's first block: one more must stand there, and to the last of them none but blank ones.
func (r *reader) end() error {
	for more := true; more; more = r.at < len(r.bytes) {
		begin := r.at
		block, ok := r.take(1)
		if !ok {
			return atPlace(api.ErrShort, begin)
		}
		if !blank(block) {
			return atPlace(api.ErrLong, begin)
		}
	}
	return nil
}

// blank tells whether all bytes are 0.
func blank(block []byte) bool {
	for _, c := range block {
		if c != 0 {
			return false
		}
	}
	return true
}
