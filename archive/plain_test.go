package archive_test

import (
	"strings"

	"strata/api"
	"strata/flate"
	"strata/ustar"
)

// A second telling of the chapter, on texts alone.

// zeros are n bytes 0.
func zeros(n int) string { return strings.Repeat("\x00", n) }

// filled is a text with bytes 0 behind it up to the end of its last block.
func filled(s string) string {
	for len(s)%512 != 0 {
		s += zeros(512 - len(s)%512)
	}
	return s
}

// plainWrite is the archive of members; or a number, and the member that it is told of.
func plainWrite(l []api.Member) (string, api.Errno, int) {
	s := ""
	for i, m := range l {
		h, err := ustar.Encode(m.Header)
		if err != nil {
			return "", err.(api.Errno), i
		}
		if int(m.Header.Size) != len(m.Data) {
			return "", api.ErrArg, i
		}
		s += h + filled(m.Data)
		if len(s+zeros(1024)) > 1<<25 {
			return "", api.ErrMany, i
		}
	}
	return s + zeros(1024), api.OK, 0
}

// plainRead is what an archive has; or a number, and the byte that it is told of.
func plainRead(s string) ([]api.Member, api.Errno, int) {
	if len(s) > 1<<25 {
		return nil, api.ErrMany, 1 << 25
	}
	var l []api.Member
	at := 0
	for {
		rest := s[at:]
		if len(rest) < 512 {
			return nil, api.ErrShort, at
		}
		if rest[:512] == zeros(512) {
			break
		}
		h, err := ustar.Decode(rest[:512])
		if err != nil {
			return nil, err.(api.Errno), at
		}
		at, rest = at+512, rest[512:]
		size := int(h.Size)
		if wanted := (size/512 + min(1, size%512)) * 512; len(rest) < wanted {
			return nil, api.ErrShort, at
		} else {
			l = append(l, api.Member{Header: h, Data: rest[:size]})
			at += wanted
		}
	}
	no, at := plainEnd(s, at+512)
	if no != api.OK {
		return nil, no, at
	}
	return l, api.OK, 0
}

// plainEnd is what is wrong with what stands behind the first block of the end.
func plainEnd(s string, at int) (api.Errno, int) {
	if at == len(s) {
		return api.ErrShort, at
	}
	for ; at < len(s); at += 512 {
		if at+512 > len(s) {
			return api.ErrShort, at
		}
		if s[at:at+512] != zeros(512) {
			return api.ErrLong, at
		}
	}
	return api.OK, 0
}

// plainEntry is a row of the chapter's table.
func plainEntry(m api.Member) (api.Entry, bool) {
	h := m.Header
	mode := int(h.Mode) & 07777
	slash := len(h.Path) > 0 && h.Path[len(h.Path)-1] == '/'
	switch {
	case (h.Type == '0' || h.Type == 0) && !slash && len(m.Data) <= 1<<20:
		return api.Entry{Path: h.Path, Kind: api.KFile, Mode: mode, Data: m.Data}, true
	case (h.Type == '0' || h.Type == 0) && slash && len(m.Data) == 0:
		return api.Entry{Path: h.Path, Kind: api.KDir, Mode: mode}, true
	case h.Type == '5' && len(m.Data) == 0:
		return api.Entry{Path: h.Path, Kind: api.KDir, Mode: mode}, true
	case h.Type == '2' && len(m.Data) == 0 && len(h.Link) > 0:
		return api.Entry{Path: h.Path, Kind: api.KLink, Mode: 511, Link: h.Link}, true
	}
	return api.Entry{}, false
}

func plainAny(s string) ([]api.Entry, bool) {
	if len(s) >= 2 && s[0] == 0x1f && s[1] == 0x8b {
		text, err := flate.Gunzip(s, 1<<25)
		if err != nil {
			return nil, false
		}
		s = text
	}
	l, no, _ := plainRead(s)
	if no != api.OK || len(l) == 0 {
		return nil, false
	}
	var entries []api.Entry
	for _, m := range l {
		e, ok := plainEntry(m)
		if !ok {
			return nil, false
		}
		entries = append(entries, e)
	}
	return entries, true
}
