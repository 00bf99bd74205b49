package zip_test

import (
	"bytes"
	"encoding/binary"
	"hash/crc32"
	"strings"
	"testing"
	"unicode/utf8"

	"gridiron/api"
	"gridiron/flate"
	"gridiron/zip"
)

// mayBe tells, part by part from the left, whether a name may be.
func mayBe(s string) bool {
	if s == "" || len(s) > 1024 || !utf8.ValidString(s) || strings.ContainsAny(s, "\\:\x7f") {
		return false
	}
	for _, c := range []byte(s) {
		if c < ' ' {
			return false
		}
	}
	for {
		part, rest, more := strings.Cut(s, "/")
		if part == "" || part == "." || part == ".." {
			return false
		}
		if !more || rest == "" {
			return true
		}
		s = rest
	}
}

// model reads a file as the chapter says it, sentence by sentence, by places alone.
func model(b []byte, most int) ([]api.Entry, api.Errno) {
	if most < 0 {
		return nil, api.ErrArg
	}
	short := func(at int) int { return int(binary.LittleEndian.Uint16(b[at:])) }
	long := func(at int) int { return int(binary.LittleEndian.Uint32(b[at:])) }
	const beyond = 4294967295
	end := -1
	for at := 0; at+22 <= len(b); at++ {
		if long(at) == 0x06054B50 && at+22+short(at+20) == len(b) {
			end = at
		}
	}
	if end < 0 {
		return nil, api.ErrZipEnd
	}
	count, dirLength, dir := short(end+8), long(end+12), long(end+16)
	switch {
	case short(end+4) != 0, short(end+6) != 0, count != short(end+10), count == 65535, dirLength == beyond, dir == beyond:
		return nil, api.ErrZipKind
	case count > api.MaxEntries:
		return nil, api.ErrLong
	case dir+dirLength != end:
		return nil, api.ErrZipDir
	}
	var l []api.Entry
	next, all, at := 0, 0, dir
	for range count {
		if end-at < 46 || long(at) != 0x02014B50 || end-at < 46+short(at+28)+short(at+30)+short(at+32) {
			return nil, api.ErrZipDir
		}
		flags, method, sum, lies, length, place := short(at+8), short(at+10), long(at+16), long(at+20), long(at+24), long(at+42)
		name := string(b[at+46 : at+46+short(at+28)])
		bit3 := flags>>3&1 == 1
		if flags&0b1111_0111_1111_0001 != 0 || method != 0 && method != 8 || short(at+34) != 0 || sum == beyond || lies == beyond || length == beyond || place == beyond {
			return nil, api.ErrZipKind
		}
		if !mayBe(name) {
			return nil, api.ErrZipName
		}
		for _, e := range l {
			if e.Name == name {
				return nil, api.ErrTwice
			}
		}
		if place != next {
			return nil, api.ErrZipDir
		}
		if dir-place < 30 || long(place) != 0x04034B50 || dir-place < 30+short(place+26)+short(place+28) {
			return nil, api.ErrZipHead
		}
		data := place + 30 + short(place+26) + short(place+28)
		same := long(place+14) == sum && long(place+18) == lies && long(place+22) == length
		noughts := long(place+14) == 0 && long(place+18) == 0 && long(place+22) == 0
		if short(place+6) != flags || short(place+8) != method || string(b[place+30:place+30+short(place+26)]) != name || !same && !(bit3 && noughts) {
			return nil, api.ErrZipHead
		}
		if data+lies > dir {
			return nil, api.ErrZipDir
		}
		all += length
		if length > most || length > api.MaxPart || all > most || all > api.MaxPart {
			return nil, api.ErrLong
		}
		contents := b[data : data+lies]
		if method == 0 && lies != length {
			return nil, api.ErrZipDeflate
		}
		if method == 8 {
			said, used, errno := flate.Inflate(contents, length)
			if errno != api.OK || used != lies {
				return nil, api.ErrZipDeflate
			}
			contents = said
		}
		if len(contents) != length || int(crc32.ChecksumIEEE(contents)) != sum {
			return nil, api.ErrZipSum
		}
		next = data + lies
		if bit3 {
			threeAt := func(at int) bool {
				return at+12 <= dir && long(at) == sum && long(at+4) == lies && long(at+8) == length
			}
			switch {
			case next+16 <= dir && long(next) == 0x08074B50 && threeAt(next+4):
				next += 16
			case threeAt(next):
				next += 12
			default:
				return nil, api.ErrZipHead
			}
		}
		l = append(l, api.Entry{Name: name, Data: contents, Stored: method == 0})
		at += 46 + short(at+28) + short(at+30) + short(at+32)
	}
	if at != end || next != dir {
		return nil, api.ErrZipDir
	}
	if len(l) == 0 || l[0].Name != "mimetype" || !l[0].Stored || string(l[0].Data) != "application/vnd.oasis.opendocument.spreadsheet" {
		return nil, api.ErrZipFirst
	}
	return l, api.OK
}

// same tells whether two lists have the same entries.
func same(l, m []api.Entry) bool {
	if len(l) != len(m) {
		return false
	}
	for i := range l {
		if l[i].Name != m[i].Name || l[i].Stored != m[i].Stored || !bytes.Equal(l[i].Data, m[i].Data) {
			return false
		}
	}
	return true
}

// asModel holds Read against the model, and answers what both of them say.
func asModel(t *testing.T, what string, b []byte, most int) api.Errno {
	t.Helper()
	want, wanted := model(b, most)
	got, errno := zip.Read(b, most)
	if errno != wanted || !same(got, want) {
		t.Fatalf("%s: Read(%x, %d): %d entries, %v; the model: %d, %v", what, b, most, len(got), errno, len(want), wanted)
	}
	return errno
}

// refuse holds that Read refuses a file, and as the model does.
func refuse(t *testing.T, what string, b []byte, most int, errno api.Errno) {
	t.Helper()
	l, got := zip.Read(b, most)
	if got != errno || len(l) != 0 {
		t.Errorf("%s: Read: %d entries, %v, want %v", what, len(l), got, errno)
	}
	if _, wanted := model(b, most); wanted != errno {
		t.Errorf("%s: the model says %v, want %v", what, wanted, errno)
	}
}

// take holds that Read takes a file, with just these entries.
func take(t *testing.T, what string, b []byte, most int, want []api.Entry) {
	t.Helper()
	if l, errno := zip.Read(b, most); errno != api.OK || !same(l, want) {
		t.Errorf("%s: Read: %d entries, %v, want %d", what, len(l), errno, len(want))
	}
	if _, errno := model(b, most); errno != api.OK {
		t.Errorf("%s: the model says %v", what, errno)
	}
}
