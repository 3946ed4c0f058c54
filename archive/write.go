package archive

import (
	"errors"
	"iter"

	"strata/api"
	"strata/ustar"
)

const blockSize = 512

// endBlocks is how many blocks of bytes 0 an archive that is written ends with.
const endBlocks = 2

// blocksFor is how many blocks so many bytes need.
func blocksFor(size int64) int64 { return (size + blockSize - 1) / blockSize }

// atPlace is an error's number with a place.
func atPlace(err error, at int) error {
	var no api.Errno
	errors.As(err, &no)
	return api.Fault{No: no, At: at}
}

// written is the archive of members, each of which comes with its index.
func written(members iter.Seq2[int, api.Member]) (string, error) {
	var w writer
	for i, m := range members {
		if err := w.add(m); err != nil {
			return "", atPlace(err, i)
		}
	}
	w.room(endBlocks)
	return string(w.bytes), nil
}

// writer lays blocks one behind the other.
type writer struct{ bytes []byte }

// room is so many blocks more. It is cut off at its end, so that nothing that is laid there runs over into what comes behind.
func (w *writer) room(blocks int64) []byte {
	begin := len(w.bytes)
	w.bytes = append(w.bytes, make([]byte, blocks*blockSize)...)
	end := len(w.bytes)
	return w.bytes[begin:end:end]
}

// add lays a member. Nothing is laid of one that is refused, so that no more than an archive's bytes are ever there.
func (w *writer) add(m api.Member) error {
	header, err := ustar.Encode(m.Header)
	if err != nil {
		return err
	}
	size := int64(len(m.Data))
	if m.Header.Size != size {
		return api.ErrArg
	}
	blocks := blocksFor(size)
	if int64(len(w.bytes))+(1+blocks+endBlocks)*blockSize > api.MaxArchive {
		return api.ErrMany
	}
	copy(w.room(1), header)
	copy(w.room(blocks), m.Data)
	return nil
}
