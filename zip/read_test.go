package zip_test

import (
	stdzip "archive/zip"
	"bytes"
	"math"
	"slices"
	"strconv"
	"strings"
	"testing"

	"gridiron/api"
	"gridiron/flate"
	"gridiron/zip"
)

// plenty is a most that is enough for the files of these tests.
const plenty = 1 << 20

// sample is a file with entries of each kind, with extra fields, comments, and the three longs behind some of them.
func sample() *made {
	full := deflated("content.xml", []byte("<content>content content</content>"))
	full.version, full.time, full.date, full.attributes, full.outerAttributes = 0xABCD, 0xFFFF, 0xFFFF, 0xFFFF, 0xFFFFFFFF
	full.flags |= 1<<1 | 1<<2 | 1<<11
	full.localExtra, full.extra, full.comment = []byte("PK\x03\x04"), []byte("extra PK\x01\x02"), []byte("PK\x05\x06 comment")
	return lay("a comment", first(), full, hidden(deflated("a/b", []byte("bb")), true), described(stored("c", []byte("cc")), false), stored("folder/", nil), hidden(deflated("é", nil), false), stored("last", []byte("the last one")))
}

// P4.3: the chapter's examples.
func TestReadExamples(t *testing.T) {
	b := written(t, []api.Entry{mimetype()})
	take(t, "the mimetype", b, 46, []api.Entry{mimetype()})
	refuse(t, "159 bytes", b[:159], 46, api.ErrZipEnd)
	b[40] ^= 1
	refuse(t, "byte 40", b, 46, api.ErrZipSum)
}

// P4.3: entries of each kind.
func TestReadSample(t *testing.T) {
	m := sample()
	take(t, "sample", m.bytes, plenty, m.entries)
}

// P4.3: what the library's own writer makes, with the three longs behind each entry.
func TestReadOfOthers(t *testing.T) {
	var b bytes.Buffer
	w := stdzip.NewWriter(&b)
	l := append(listOf(40), api.Entry{Name: "é/x", Data: []byte("y")}, api.Entry{Name: "much", Data: bytes.Repeat([]byte("much "), 40000)})
	for _, e := range l {
		method := stdzip.Deflate
		if e.Stored {
			method = stdzip.Store
		}
		f, err := w.CreateHeader(&stdzip.FileHeader{Name: e.Name, Method: method})
		if err != nil {
			t.Fatal(err)
		}
		if _, err := f.Write(e.Data); err != nil {
			t.Fatal(err)
		}
	}
	w.SetComment("of others")
	if err := w.Close(); err != nil {
		t.Fatal(err)
	}
	take(t, "of others", b.Bytes(), plenty, l)
}

// P4.3, R1, R2: a most below 0 is told ahead of all else; 0, just enough, and one less.
func TestReadMost(t *testing.T) {
	m := lay("", first(), stored("a", []byte("aaa")), deflated("b", []byte("bbbb")), stored("c", nil))
	for _, most := range []int{-1, math.MinInt} {
		refuse(t, "below 0", m.bytes, most, api.ErrArg)
		refuse(t, "below 0", nil, most, api.ErrArg)
	}
	for _, most := range []int{53, 54, math.MaxInt} {
		take(t, "enough", m.bytes, most, m.entries)
	}
	for _, most := range []int{0, 1, 45, 46, 48, 49, 52} {
		refuse(t, "too little", m.bytes, most, api.ErrLong)
	}
	// contents of no bytes need no room
	none := lay("", stored("mimetype", nil), deflated("a", nil))
	refuse(t, "no contents", none.bytes, 0, api.ErrZipFirst)
	refuse(t, "no file", nil, 0, api.ErrZipEnd)
}

// P4.3: bytes that are no file.
func TestReadNothing(t *testing.T) {
	for _, b := range [][]byte{nil, {}, {0x50}, []byte("PK\x05\x06"), make([]byte, 22), make([]byte, 100000), bytes.Repeat([]byte("PK\x05\x06"), 5000)} {
		refuse(t, "no file", b, plenty, api.ErrZipEnd)
	}
	end := endOf(0, 0, 0, "")
	refuse(t, "an end alone", end, plenty, api.ErrZipFirst)
	for n := range end {
		refuse(t, "a cut end", end[:n], plenty, api.ErrZipEnd)
	}
	refuse(t, "an end alone, behind a byte", append([]byte{0}, end...), plenty, api.ErrZipDir)
	refuse(t, "an end alone, behind a byte of nothing", append([]byte{0}, endOf(0, 0, 1, "")...), plenty, api.ErrZipDir)
	refuse(t, "an end alone, behind a byte of a directory", append([]byte{0}, endOf(0, 1, 0, "")...), plenty, api.ErrZipDir)
}

// P4.3: files that are cut off at each of their places, at their end and at their beginning.
func TestReadCut(t *testing.T) {
	for i, m := range []*made{lay("", first()), lay("", first(), deflated("x", []byte("xxx"))), sample()} {
		for n := range m.bytes {
			// the last one has a mark of an end in its directory
			if errno := asModel(t, "cut at "+strconv.Itoa(n), m.bytes[:n], plenty); errno == api.OK || i < 2 && errno != api.ErrZipEnd {
				t.Errorf("cut at %d: %v", n, errno)
			}
			if n > 0 && asModel(t, "without its first "+strconv.Itoa(n), m.bytes[n:], plenty) == api.OK {
				t.Errorf("without its first %d bytes it is taken", n)
			}
		}
	}
}

// P4.3: the end with a comment, and with marks of ends within it.
func TestReadComment(t *testing.T) {
	parts := []part{first(), deflated("x", []byte("xxx"))}
	mark := "PK\x05\x06"
	for _, comment := range []string{"", "c", mark, mark + mark, mark + strings.Repeat("\x00", 17), mark + strings.Repeat("\x01", 18), mark + strings.Repeat("\x00", 19), strings.Repeat("c", 65535), strings.Repeat(mark, 16383) + "\x00\x00\x00"} {
		m := lay(comment, parts...)
		take(t, "comment", m.bytes, plenty, m.entries)
	}
	// an end within the comment that reaches just to the last byte is the end
	m := lay(string(endOf(0, 0, 0, "")), parts...)
	refuse(t, "an end within the comment", m.bytes, plenty, api.ErrZipDir)
	m = lay("c"+string(endOf(1, 0, 0, "cc")), parts...)
	refuse(t, "an end within the comment", m.bytes, plenty, api.ErrZipDir)
	m = lay(string(endOf(0, 0, 0, "c")), parts...)
	m.short(len(m.bytes)-3, 0)
	take(t, "an end within the comment that ends too early", m.bytes, plenty, m.entries)
	m.short(len(m.bytes)-3, 2)
	take(t, "an end within the comment that ends too late", m.bytes, plenty, m.entries)
	for _, n := range []uint16{0, 8, 10, 65535} {
		m := sample()
		refuse(t, "a comment of another length", m.short(m.end+endComment, n).bytes, plenty, api.ErrZipEnd)
	}
	m = lay(strings.Repeat("c", 65535), parts...)
	refuse(t, "a comment of 65,536 bytes", append(m.bytes, 'c'), plenty, api.ErrZipEnd)
}

// P4.3: what the end says of disks, of the number of entries, and of the directory.
func TestReadEnd(t *testing.T) {
	n := uint16(7)
	for _, c := range []struct {
		what  string
		turn  func(m *made)
		errno api.Errno
	}{
		{"mark", func(m *made) { m.long(m.end, 0x06054B51) }, api.ErrZipEnd},
		{"disk", func(m *made) { m.short(m.end+endDisk, 1) }, api.ErrZipKind},
		{"disk 65,535", func(m *made) { m.short(m.end+endDisk, 65535) }, api.ErrZipKind},
		{"disk of the directory", func(m *made) { m.short(m.end+endFirst, 1) }, api.ErrZipKind},
		{"both disks", func(m *made) { m.short(m.end+endDisk, 1).short(m.end+endFirst, 1) }, api.ErrZipKind},
		{"fewer here", func(m *made) { m.short(m.end+endHere, n-1) }, api.ErrZipKind},
		{"more here", func(m *made) { m.short(m.end+endHere, n+1) }, api.ErrZipKind},
		{"none here", func(m *made) { m.short(m.end+endHere, 0) }, api.ErrZipKind},
		{"none in all", func(m *made) { m.short(m.end+endAll, 0) }, api.ErrZipKind},
		{"65,535 here", func(m *made) { m.short(m.end+endHere, 65535) }, api.ErrZipKind},
		{"65,535 in all", func(m *made) { m.short(m.end+endAll, 65535) }, api.ErrZipKind},
		{"65,535", func(m *made) { m.short(m.end+endHere, 65535).short(m.end+endAll, 65535) }, api.ErrZipKind},
		{"65,534", func(m *made) { m.short(m.end+endHere, 65534).short(m.end+endAll, 65534) }, api.ErrLong},
		{"257", func(m *made) { m.short(m.end+endHere, 257).short(m.end+endAll, 257) }, api.ErrLong},
		{"256", func(m *made) { m.short(m.end+endHere, 256).short(m.end+endAll, 256) }, api.ErrZipDir},
		{"one more", func(m *made) { m.short(m.end+endHere, n+1).short(m.end+endAll, n+1) }, api.ErrZipDir},
		{"one less", func(m *made) { m.short(m.end+endHere, n-1).short(m.end+endAll, n-1) }, api.ErrZipDir},
		{"none", func(m *made) { m.short(m.end+endHere, 0).short(m.end+endAll, 0) }, api.ErrZipDir},
		{"length 4,294,967,295", func(m *made) { m.long(m.end+endLength, 4294967295) }, api.ErrZipKind},
		{"place 4,294,967,295", func(m *made) { m.long(m.end+endPlace, 4294967295) }, api.ErrZipKind},
		{"length 4,294,967,294", func(m *made) { m.long(m.end+endLength, 4294967294) }, api.ErrZipDir},
		{"place 4,294,967,294", func(m *made) { m.long(m.end+endPlace, 4294967294) }, api.ErrZipDir},
		{"length one more", func(m *made) { m.long(m.end+endLength, uint32(m.end-m.dir+1)) }, api.ErrZipDir},
		{"length one less", func(m *made) { m.long(m.end+endLength, uint32(m.end-m.dir-1)) }, api.ErrZipDir},
		{"place one more", func(m *made) { m.long(m.end+endPlace, uint32(m.dir+1)) }, api.ErrZipDir},
		{"place one less", func(m *made) { m.long(m.end+endPlace, uint32(m.dir-1)) }, api.ErrZipDir},
		{"one byte later", func(m *made) {
			m.long(m.end+endPlace, uint32(m.dir+1)).long(m.end+endLength, uint32(m.end-m.dir-1))
		}, api.ErrZipDir},
		{"one byte earlier", func(m *made) {
			m.long(m.end+endPlace, uint32(m.dir-1)).long(m.end+endLength, uint32(m.end-m.dir+1))
		}, api.ErrZipDir},
		{"a sum that wraps round", func(m *made) {
			m.long(m.end+endPlace, uint32(m.end)+2).long(m.end+endLength, 4294967294)
		}, api.ErrZipDir},
		{"a sum that wraps round, with a far place", func(m *made) {
			m.long(m.end+endPlace, 4294967294).long(m.end+endLength, uint32(m.end)+2)
		}, api.ErrZipDir},
	} {
		m := sample()
		c.turn(m)
		refuse(t, c.what, m.bytes, plenty, c.errno)
	}
}

// P4.3: an end whose numbers are such that only their order tells which error there is.
func TestReadEndOrder(t *testing.T) {
	m := sample()
	m.short(m.end+endHere, 300).short(m.end+endAll, 300).long(m.end+endPlace, 1)
	refuse(t, "number ahead of place", m.bytes, plenty, api.ErrLong)
	m.short(m.end+endDisk, 1)
	refuse(t, "disk ahead of number", m.bytes, plenty, api.ErrZipKind)
}

// P4.3: how many entries there may be.
func TestReadEntries(t *testing.T) {
	parts := []part{first()}
	for i := range 255 {
		parts = append(parts, stored("part"+strconv.Itoa(i), nil))
	}
	m := lay("", parts...)
	take(t, "256 entries", m.bytes, plenty, m.entries)
	refuse(t, "257 entries", lay("", append(parts, stored("x", nil))...).bytes, plenty, api.ErrLong)
}

// P4.3: the directory's marks and lengths.
func TestReadDirectory(t *testing.T) {
	m := sample()
	for i, at := range m.record {
		refuse(t, "mark", m.copied().long(at, 0x02014B51).bytes, plenty, api.ErrZipDir)
		refuse(t, "mark", m.copied().long(at, 0x04034B50).bytes, plenty, api.ErrZipDir)
		for _, field := range []int{dirNames, dirExtras, dirComments} {
			refuse(t, "length", m.copied().short(at+field, 65535).bytes, plenty, api.ErrZipDir)
			// one byte more: the next entry of the directory stands one byte off, if the name has not told it already
			if errno := asModel(t, "length", m.copied().short(at+field, uint16(m.bytes[at+field])+1).bytes, plenty); errno == api.OK {
				t.Errorf("entry %d with a length more is taken", i)
			}
		}
	}
	last := len(m.record) - 1
	at := m.record[last]
	for _, field := range []int{dirExtras, dirComments} {
		refuse(t, "one byte beyond", m.copied().short(at+field, 1).bytes, plenty, api.ErrZipDir)
	}
	// a directory that ends within its last entry, and one with bytes more
	for n := 1; n < m.end-at; n++ {
		cut := slices.Concat(m.bytes[:m.end-n], m.bytes[m.end:])
		refuse(t, "cut directory", patchEnd(cut, m.end-n, m.end-n-m.dir), plenty, api.ErrZipDir)
	}
	for n := range 60 {
		more := slices.Concat(m.bytes[:m.end], make([]byte, n), m.bytes[m.end:])
		want := api.ErrZipDir
		if n == 0 {
			want = api.OK
		}
		if errno := asModel(t, "more", patchEnd(more, m.end+n, m.end+n-m.dir), plenty); errno != want {
			t.Errorf("a directory with %d bytes more: %v", n, errno)
		}
	}
	// an entry more than the end counts
	twice := slices.Concat(m.bytes[:m.end], m.bytes[at:m.end], m.bytes[m.end:])
	refuse(t, "an entry more", patchEnd(twice, 2*m.end-at, 2*m.end-at-m.dir), plenty, api.ErrZipDir)
}

// patchEnd puts another length of the directory into the end that stands at a place.
func patchEnd(b []byte, end, length int) []byte {
	m := &made{bytes: b}
	return m.long(end+endLength, uint32(length)).bytes
}

// P4.3: each flag by itself, in the directory alone, in the local header alone, and in both.
func TestReadFlags(t *testing.T) {
	for bit := range 16 {
		p := deflated("x", []byte("xxx"))
		p.flags = 1 << bit
		m := lay("", first(), p)
		switch bit {
		case 1, 2, 11:
			take(t, "flag", m.bytes, plenty, m.entries)
		case 3:
			refuse(t, "flag 3 with nothing behind", m.bytes, plenty, api.ErrZipHead)
		default:
			refuse(t, "flag", m.bytes, plenty, api.ErrZipKind)
		}
		m = lay("", first(), deflated("x", []byte("xxx")))
		refuse(t, "local flag", m.copied().short(m.local[1]+localFlags, 1<<bit).bytes, plenty, api.ErrZipHead)
		want := api.ErrZipKind
		if bit == 1 || bit == 2 || bit == 3 || bit == 11 {
			want = api.ErrZipHead
		}
		refuse(t, "flag of the directory", m.copied().short(m.record[1]+dirFlags, 1<<bit).bytes, plenty, want)
	}
	p := described(stored("x", []byte("xxx")), true)
	p.flags = 1<<1 | 1<<2 | 1<<3 | 1<<11
	m := lay("", first(), p)
	take(t, "all flags that are taken", m.bytes, plenty, m.entries)
}

// P4.3: the methods.
func TestReadMethods(t *testing.T) {
	for method := range 65536 {
		if method > 300 && method&(method-1) != 0 && method < 65500 {
			continue
		}
		p := stored("x", []byte("xxx"))
		p.method = uint16(method)
		m := lay("", first(), p)
		switch method {
		case 0:
			take(t, "stored", m.bytes, plenty, m.entries)
		case 8:
			refuse(t, "not deflated", m.bytes, plenty, api.ErrZipDeflate)
		default:
			refuse(t, "method "+strconv.Itoa(method), m.bytes, plenty, api.ErrZipKind)
		}
		if method != 0 {
			m = lay("", first(), stored("x", []byte("xxx")))
			refuse(t, "local method", m.short(m.local[1]+localMethod, uint16(method)).bytes, plenty, api.ErrZipHead)
		}
	}
}

// P4.3: the disk of an entry, and longs of 4,294,967,295.
func TestReadKinds(t *testing.T) {
	m := sample()
	for i, at := range m.record {
		for _, disk := range []uint16{1, 256, 65535} {
			refuse(t, "disk", m.copied().short(at+dirDisk, disk).bytes, plenty, api.ErrZipKind)
		}
		for _, field := range []int{dirSum, dirLies, dirLength, dirPlace} {
			refuse(t, "beyond", m.copied().long(at+field, 4294967295).bytes, plenty, api.ErrZipKind)
		}
		refuse(t, "beyond in both", m.copied().both(i, localSum, dirSum, 4294967295).bytes, plenty, api.ErrZipKind)
	}
	// the words of P4.3 hold for the sum too, even where the contents have it
	refuse(t, "a true sum", lay("", first(), stored("x", []byte{255, 255, 255, 255})).bytes, plenty, api.ErrZipKind)
}

// P4.3: names that may not be, and two entries of one name.
func TestReadNames(t *testing.T) {
	for _, name := range []string{"", "/", "/a", "a//b", ".", "..", "../a", "a/..", "a/./b", "a:b", "a\\b", "\x1f", "\x7f", "\xff", "\xc3", strings.Repeat("a", 1025), strings.Repeat("a", 65535)} {
		refuse(t, "name", lay("", first(), stored(name, []byte("x")), stored("y", nil)).bytes, plenty, api.ErrZipName)
		refuse(t, "first name", lay("", stored(name, []byte("x"))).bytes, plenty, api.ErrZipName)
	}
	for _, name := range []string{"a", "a/", "Pictures/x", "é", strings.Repeat("a", 1024), strings.Repeat("a/", 512)} {
		m := lay("", first(), stored(name, []byte("x")))
		take(t, "name", m.bytes, plenty, m.entries)
	}
	refuse(t, "twice", lay("", first(), first()).bytes, plenty, api.ErrTwice)
	refuse(t, "twice", lay("", first(), stored("a", nil), stored("b", nil), deflated("a", []byte("x"))).bytes, plenty, api.ErrTwice)
	m := lay("", first(), stored("a", nil), stored("A", nil), stored("a/", nil))
	take(t, "unlike", m.bytes, plenty, m.entries)
}

// P4.3: entries with a gap between them, in another order, that overlap, and that are told off their places.
func TestReadPlaces(t *testing.T) {
	gap := stored("b", []byte("bb"))
	gap.ahead = []byte{0}
	refuse(t, "gap", lay("", first(), gap).bytes, plenty, api.ErrZipDir)
	front := first()
	front.ahead = []byte("#!")
	refuse(t, "bytes ahead of the first one", lay("", front).bytes, plenty, api.ErrZipDir)
	refuse(t, "bytes ahead of the directory", lay("", gap, first()).bytes, plenty, api.ErrZipDir)
	behind := first()
	behind.behind = []byte{0}
	refuse(t, "a byte behind the last one", lay("", behind).bytes, plenty, api.ErrZipDir)
	behind.behind = described(first(), true).behind
	refuse(t, "longs behind one without the bit 3", lay("", behind, stored("x", nil)).bytes, plenty, api.ErrZipDir)
	m := lay("", first(), stored("b", []byte("bb")), stored("c", []byte("cc")))
	for i := range m.record {
		place := uint32(m.local[i])
		for _, other := range []uint32{place + 1, place - 1, uint32(m.dir), uint32(len(m.bytes)), 4294967294, uint32(m.local[(i+1)%3]), uint32(m.local[(i+2)%3])} {
			if other != 4294967295 {
				refuse(t, "place", m.copied().long(m.record[i]+dirPlace, other).bytes, plenty, api.ErrZipDir)
			}
		}
	}
	swapped := slices.Concat(m.bytes[:m.record[1]], m.bytes[m.record[2]:m.end], m.bytes[m.record[1]:m.record[2]], m.bytes[m.end:])
	refuse(t, "another order", swapped, plenty, api.ErrZipDir)
	// the second one lies within the contents of the one ahead of it
	inner := stored("b", []byte("bb"))
	outer := stored("a", inner.local())
	m = lay("", first(), outer, inner)
	m.long(m.record[2]+dirPlace, uint32(m.lying[1]))
	refuse(t, "within another", m.bytes, plenty, api.ErrZipDir)
}

// P4.3: local headers that are not those of the directory's entries.
func TestReadLocal(t *testing.T) {
	m := sample()
	for i, at := range m.local {
		refuse(t, "mark", m.copied().long(at, 0x04034B51).bytes, plenty, api.ErrZipHead)
		refuse(t, "mark", m.copied().long(at, 0x02014B50).bytes, plenty, api.ErrZipHead)
		refuse(t, "flags", m.copied().short(at+localFlags, m.at(at+localFlags)^2).bytes, plenty, api.ErrZipHead)
		refuse(t, "flags", m.copied().short(at+localFlags, m.at(at+localFlags)^8).bytes, plenty, api.ErrZipHead)
		refuse(t, "flags", m.copied().short(at+localFlags, m.at(at+localFlags)^2048).bytes, plenty, api.ErrZipHead)
		refuse(t, "method", m.copied().short(at+localMethod, m.at(at+localMethod)^8).bytes, plenty, api.ErrZipHead)
		for _, field := range []int{localSum, localLies, localLength} {
			refuse(t, "long", m.copied().long(at+field, m.longAt(at+field)+1).bytes, plenty, api.ErrZipHead)
			refuse(t, "long", m.copied().long(at+field, 4294967295).bytes, plenty, api.ErrZipHead)
		}
		names := int(m.at(at + localNames))
		for k := range names {
			other := m.copied()
			other.bytes[at+localName+k] ^= 1
			refuse(t, "name", other.bytes, plenty, api.ErrZipHead)
		}
		for _, n := range []int{0, names - 1, names + 1, 65535} {
			refuse(t, "length of the name", m.copied().short(at+localNames, uint16(n)).bytes, plenty, api.ErrZipHead)
		}
		refuse(t, "length of the extra field", m.copied().short(at+localExtras, 65535).bytes, plenty, api.ErrZipHead)
		for _, field := range []int{localVersion, localTime, localTime + 2} {
			other := m.copied().short(at+field, 12345)
			take(t, "any", other.bytes, plenty, m.entries)
		}
		for _, field := range []int{dirVersion, dirVersion + 2, dirTime, dirTime + 2, dirAttrs, dirAttrs + 2, dirAttrs + 4} {
			other := m.copied().short(m.record[i]+field, 54321)
			take(t, "any", other.bytes, plenty, m.entries)
		}
	}
}

// at is the number of two bytes at a place.
func (m *made) at(place int) uint16 {
	return uint16(m.bytes[place]) | uint16(m.bytes[place+1])<<8
}

// P4.3: a local header that does not end ahead of the directory.
func TestReadLocalCut(t *testing.T) {
	last := stored("last", nil)
	last.localExtra = []byte("extra")
	whole := last.local()
	for n := range len(whole) {
		// the directory begins n bytes behind the beginning of the last local header
		b := append(first().local(), whole[:n]...)
		dir := len(b)
		b = append(b, first().record(0)...)
		b = append(b, last.record(dir-n)...)
		b = append(b, endOf(2, len(b)-dir, dir, "")...)
		refuse(t, "a cut local header", b, plenty, api.ErrZipHead)
	}
	// nor may its extra field lie in the directory
	m := lay("", first(), stored("last", nil))
	refuse(t, "an extra field that reaches into the directory", m.short(m.local[1]+localExtras, 1).bytes, plenty, api.ErrZipHead)
}

// P4.3: the bit 3, with the three longs 0 and not 0, with the mark behind the contents and without it, and neither.
func TestReadDescribed(t *testing.T) {
	for _, p := range []part{stored("x", []byte("xxx")), deflated("x", []byte("xxx")), stored("x", nil), deflated("x", nil), stored("x", []byte("PK\x07\x08"))} {
		for _, mark := range []bool{true, false} {
			for _, last := range []bool{true, false} {
				parts := []part{first(), described(p, mark)}
				if !last {
					parts = append(parts, stored("y", []byte("y")))
				}
				m := lay("", parts...)
				take(t, "not 0", m.bytes, plenty, m.entries)
				parts[1] = hidden(p, mark)
				m = lay("", parts...)
				take(t, "0", m.bytes, plenty, m.entries)
				spoilDescribed(t, m, len(parts[1].behind))
			}
		}
		none := hidden(p, true)
		none.behind = nil
		refuse(t, "neither, last", lay("", first(), none).bytes, plenty, api.ErrZipHead)
		refuse(t, "neither", lay("", first(), none, stored("y", nil)).bytes, plenty, api.ErrZipHead)
		none.behind = long(nil, 0x08074B50)
		refuse(t, "the mark alone", lay("", first(), none, stored("y", nil)).bytes, plenty, api.ErrZipHead)
		none.behind = append(long(nil, 0x08074B50), described(p, true).behind...)
		refuse(t, "the mark twice", lay("", first(), none, stored("y", nil)).bytes, plenty, api.ErrZipHead)
		none.behind = append(described(p, true).behind, 0)
		refuse(t, "a byte more", lay("", first(), none, stored("y", nil)).bytes, plenty, api.ErrZipDir)
		none = hidden(p, true)
		none.flags = 0
		if p.length > 0 {
			refuse(t, "longs of 0 without the bit 3", lay("", first(), none).bytes, plenty, api.ErrZipHead)
		}
	}
	// a sum that is the mark does not make a mark of it
	like := stored("x", []byte{0xAC, 0x0A, 0x7A, 0xD5})
	if like.sum != 0x08074B50 {
		t.Fatalf("the sum is %X", like.sum)
	}
	for _, mark := range []bool{true, false} {
		m := lay("", first(), hidden(like, mark), stored("y", nil))
		take(t, "a sum like the mark", m.bytes, plenty, m.entries)
	}
	// the mimetype may have them too
	m := lay("", hidden(first(), true))
	take(t, "the mimetype", m.bytes, plenty, m.entries)
}

// spoilDescribed turns each byte of what stands behind the second entry, of so many bytes, and cuts it off ahead of the directory.
func spoilDescribed(t *testing.T, m *made, size int) {
	t.Helper()
	for k := range size {
		other := m.copied()
		other.bytes[m.behind[1]+k] ^= 0x40
		refuse(t, "behind", other.bytes, plenty, api.ErrZipHead)
	}
	if told := m.record[1]; m.longAt(told+dirLength) > 0 {
		// two of the three are 0
		refuse(t, "sum alone", m.copied().long(m.local[1]+localSum, m.longAt(told+dirSum)).bytes, plenty, api.ErrZipHead)
		refuse(t, "what lies alone", m.copied().long(m.local[1]+localLies, m.longAt(told+dirLies)).bytes, plenty, api.ErrZipHead)
		refuse(t, "length alone", m.copied().long(m.local[1]+localLength, m.longAt(told+dirLength)).bytes, plenty, api.ErrZipHead)
	}
	if len(m.local) > 2 {
		return
	}
	for k := 1; k <= size; k++ {
		b := slices.Concat(m.bytes[:m.dir-k], m.bytes[m.dir:])
		c := &made{bytes: b}
		refuse(t, "cut behind", c.long(m.end-k+endPlace, uint32(m.dir-k)).bytes, plenty, api.ErrZipHead)
	}
}

// P4.3: contents that reach beyond the directory, or lie there in another length.
func TestReadLengths(t *testing.T) {
	for i, p := range []part{stored("x", []byte("xxxxxx")), deflated("x", []byte("xxxxxx"))} {
		m := lay("", first(), p)
		for _, n := range []uint32{p.lies + 1, p.lies + 100, 4294967294} {
			refuse(t, "beyond", m.copied().both(1, localLies, dirLies, n).bytes, plenty, api.ErrZipDir)
		}
		want := []api.Errno{api.ErrZipDeflate, api.ErrZipDeflate}[i]
		for n := range p.lies {
			refuse(t, "less lies there", m.copied().both(1, localLies, dirLies, n).bytes, plenty, want)
		}
		for n := range p.length {
			refuse(t, "shorter contents", m.copied().both(1, localLength, dirLength, n).bytes, plenty, api.ErrZipDeflate)
		}
		want = []api.Errno{api.ErrZipDeflate, api.ErrZipSum}[i]
		refuse(t, "longer contents", m.copied().both(1, localLength, dirLength, p.length+1).bytes, plenty, want)
		refuse(t, "contents beyond most", m.copied().both(1, localLength, dirLength, plenty).bytes, plenty, api.ErrLong)
		refuse(t, "contents beyond MaxPart", m.copied().both(1, localLength, dirLength, api.MaxPart-45).bytes, math.MaxInt, api.ErrLong)
		refuse(t, "contents beyond", m.copied().both(1, localLength, dirLength, 4294967294).bytes, math.MaxInt, api.ErrLong)
		for _, sum := range []uint32{0, p.sum + 1, ^p.sum, p.sum ^ 1<<31} {
			refuse(t, "sum", m.copied().both(1, localSum, dirSum, sum).bytes, plenty, api.ErrZipSum)
		}
	}
}

// P4.3: deflated bytes that are wrong, too short, too long, or followed by more.
func TestReadDeflated(t *testing.T) {
	data := []byte("deflated deflated deflated")
	right := flate.Deflate(data)
	for _, lying := range [][]byte{nil, {7}, {0}, right[:1], right[:len(right)-1], append(slices.Clone(right), 0), append(slices.Clone(right), right...), append([]byte{7}, right...), flate.Deflate(append(slices.Clone(data), '.')), flate.Stored(append(slices.Clone(data), '.'))} {
		p := deflated("x", data)
		p.lying, p.lies = lying, uint32(len(lying))
		refuse(t, "deflated", lay("", first(), p, stored("y", nil)).bytes, plenty, api.ErrZipDeflate)
	}
	for _, lying := range [][]byte{flate.Deflate(data[1:]), flate.Deflate(nil), flate.Fixed([]byte("deflated deflated deflateD")), flate.Stored(data[:25])} {
		p := deflated("x", data)
		p.lying, p.lies = lying, uint32(len(lying))
		refuse(t, "other contents", lay("", first(), p, stored("y", nil)).bytes, plenty, api.ErrZipSum)
	}
	for _, lying := range [][]byte{flate.Stored(data), flate.Fixed(data)} {
		p := deflated("x", data)
		p.lying, p.lies = lying, uint32(len(lying))
		m := lay("", first(), p, stored("y", nil))
		take(t, "in another form", m.bytes, plenty, m.entries)
	}
}

// P4.3: contents of MaxPart bytes and of one more, alone and together, whatever most is.
func TestReadMuch(t *testing.T) {
	much := make([]byte, api.MaxPart+1)
	alone := lay("", deflated("a", much[1:]))
	refuse(t, "MaxPart alone", alone.bytes, math.MaxInt, api.ErrZipFirst)
	refuse(t, "MaxPart alone, one less", alone.bytes, api.MaxPart-1, api.ErrLong)
	refuse(t, "one more alone", lay("", stored("a", much)).bytes, math.MaxInt, api.ErrLong)
	rest := api.MaxPart - 46
	m := lay("", first(), deflated("a", much[:rest-5]), stored("b", much[:5]), stored("c", nil))
	take(t, "together", m.bytes, math.MaxInt, m.entries)
	take(t, "together", m.bytes, api.MaxPart, m.entries)
	refuse(t, "one less", m.bytes, api.MaxPart-1, api.ErrLong)
	refuse(t, "one more together", lay("", first(), deflated("a", much[:rest-5]), stored("b", much[:6])).bytes, math.MaxInt, api.ErrLong)
}

// P4.3: the first entry is the mimetype, stored, and is looked at behind all else.
func TestReadFirst(t *testing.T) {
	said := []byte(zip.Mimetype())
	for _, p := range []part{deflated("mimetype", said), stored("mimetypes", said), stored("Mimetype", said), stored("mimetype/", said), stored("mimetype", nil), stored("mimetype", said[:45]), stored("mimetype", append(slices.Clone(said), '\n')), stored("a", said)} {
		refuse(t, "first", lay("", p).bytes, plenty, api.ErrZipFirst)
		refuse(t, "first", lay("", p, stored("x", nil)).bytes, plenty, api.ErrZipFirst)
		m := lay("", p, stored("x", []byte("x")))
		m.bytes[m.lying[1]] = 'y'
		refuse(t, "first behind the sum", m.bytes, plenty, api.ErrZipSum)
	}
	refuse(t, "second", lay("", stored("a", nil), first()).bytes, plenty, api.ErrZipFirst)
}
