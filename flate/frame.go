package flate

import (
	"strings"

	"strata/api"
)

// frameMagic is what every frame begins with: the mark of the format, and that what it holds is deflated.
const frameMagic = "\x1f\x8b\x08"

// frameHead is what stands ahead of what is deflated, in a frame that this package writes: no flags, no time, no system.
const frameHead = frameMagic + "\x00\x00\x00\x00\x00\x00\xff"

// The flags that say what more stands in a frame's head, and those that may not be.
const (
	flagSum    = 2
	flagExtra  = 4
	flagName   = 8
	flagRemark = 16
	flagsNone  = 0xe0
)

// crcSteps says what four bits that fall out do to a sum, all at once.
var crcSteps = [...]uint32{
	0x00000000, 0x1db71064, 0x3b6e20c8, 0x26d930ac, 0x76dc4190, 0x6b6b51f4, 0x4db26158, 0x5005713c,
	0xedb88320, 0xf00f9344, 0xd6d6a3e8, 0xcb61b38c, 0x9b64c2b0, 0x86d3d2d4, 0xa00ae278, 0xbdbdf21c,
}

// fourBytes are a number's bytes, the lowest first.
func fourBytes(n uint32) string {
	return string([]byte{byte(n), byte(n >> 8), byte(n >> 16), byte(n >> 24)})
}

// frame is a text that is read from its beginning on.
type frame struct {
	s  string
	at int
}

// take is the next n bytes.
func (f *frame) take(n int) (string, error) {
	if n > len(f.s)-f.at {
		return "", api.ErrShort
	}
	piece := f.s[f.at : f.at+n]
	f.at += n
	return piece, nil
}

// head passes over all that stands ahead of what is deflated.
func (f *frame) head() error {
	flags, err := f.flags()
	if err != nil {
		return err
	}
	if _, err := f.take(6); err != nil {
		return err
	}
	if flags&flagExtra != 0 {
		err = f.extra()
	}
	if err == nil && flags&flagName != 0 {
		err = f.ended()
	}
	if err == nil && flags&flagRemark != 0 {
		err = f.ended()
	}
	if err == nil && flags&flagSum != 0 {
		err = f.sum()
	}
	return err
}

// flags holds the first bytes against what they must be, one by one, up to the flags.
func (f *frame) flags() (byte, error) {
	for i := range len(frameMagic) {
		piece, err := f.take(1)
		if err != nil {
			return 0, err
		}
		if piece[0] != frameMagic[i] {
			return 0, api.ErrForm
		}
	}
	piece, err := f.take(1)
	if err != nil {
		return 0, err
	}
	if piece[0]&flagsNone != 0 {
		return 0, api.ErrForm
	}
	return piece[0], nil
}

// extra passes over bytes whose number stands ahead of them.
func (f *frame) extra() error {
	size, err := f.take(2)
	if err == nil {
		_, err = f.take(int(size[0]) | int(size[1])<<8)
	}
	return err
}

// ended passes over bytes up to and with one of 0.
func (f *frame) ended() error {
	n := strings.IndexByte(f.s[f.at:], 0)
	if n < 0 {
		return api.ErrShort
	}
	f.at += n + 1
	return nil
}

// sum holds the head's own sum against all that stands ahead of it.
func (f *frame) sum() error {
	want := fourBytes(Crc(f.s[:f.at]))[:2]
	got, err := f.take(2)
	if err == nil && got != want {
		err = api.ErrSum
	}
	return err
}
