package zip_test

import (
	"encoding/binary"
	"hash/crc32"

	"gridiron/api"
	"gridiron/flate"
	"gridiron/zip"
)

// draws is a row of numbers that looks like none, the same one for the same beginning.
type draws uint64

func (d *draws) below(n int) int {
	*d = *d*6364136223846793005 + 1442695040888963407
	return int(uint64(*d) >> 33 % uint64(n))
}

// bytes is n bytes of so many kinds, from 0 on.
func (d *draws) bytes(n, kinds int) []byte {
	b := make([]byte, n)
	for i := range b {
		b[i] = byte(d.below(kinds))
	}
	return b
}

// Where things stand in a local header, in an entry of the directory, and in the end.
const (
	localVersion = 4
	localFlags   = 6
	localMethod  = 8
	localTime    = 10
	localSum     = 14
	localLies    = 18
	localLength  = 22
	localNames   = 26
	localExtras  = 28
	localName    = 30

	dirVersion  = 4
	dirFlags    = 8
	dirMethod   = 10
	dirTime     = 12
	dirSum      = 16
	dirLies     = 20
	dirLength   = 24
	dirNames    = 28
	dirExtras   = 30
	dirComments = 32
	dirDisk     = 34
	dirAttrs    = 36
	dirPlace    = 42
	dirName     = 46

	endDisk    = 4
	endFirst   = 6
	endHere    = 8
	endAll     = 10
	endLength  = 12
	endPlace   = 16
	endComment = 20
)

// part is an entry as a test lays it into a file: first as it ought to be, then as the test turns it.
type part struct {
	name                string
	flags, method       uint16
	sum, lies, length   uint32
	lying               []byte
	localExtra          []byte
	extra, comment      []byte
	ahead               []byte // belongs to nothing
	behind              []byte // of an entry with the bit 3
	version, time, date uint16
	attributes          uint16
	outerAttributes     uint32
	hides               bool // the three longs of its local header are 0
	data                []byte
}

// stored is an entry whose contents lie there as they are.
func stored(name string, data []byte) part {
	return part{name: name, sum: crc32.ChecksumIEEE(data), lies: uint32(len(data)), length: uint32(len(data)), lying: data, version: 20, date: 33, data: data}
}

// deflated is an entry whose contents lie there deflated.
func deflated(name string, data []byte) part {
	p := stored(name, data)
	p.method = 8
	p.lying = flate.Deflate(data)
	p.lies = uint32(len(p.lying))
	return p
}

// described is an entry with the three longs behind it, and with the mark ahead of them or without it.
func described(p part, mark bool) part {
	p.flags |= 8
	p.behind = nil
	if mark {
		p.behind = long(nil, 0x08074B50)
	}
	p.behind = long(long(long(p.behind, p.sum), p.lies), p.length)
	return p
}

// hidden is an entry with the three longs behind it alone.
func hidden(p part, mark bool) part {
	p = described(p, mark)
	p.hides = true
	return p
}

// first is the entry that each file begins with.
func first() part {
	return stored("mimetype", []byte("application/vnd.oasis.opendocument.spreadsheet"))
}

func short(b []byte, n uint16) []byte { return binary.LittleEndian.AppendUint16(b, n) }
func long(b []byte, n uint32) []byte  { return binary.LittleEndian.AppendUint32(b, n) }

// local is what lies in a file for an entry.
func (p part) local() []byte {
	b := long(nil, 0x04034B50)
	for _, n := range []uint16{p.version, p.flags, p.method, p.time, p.date} {
		b = short(b, n)
	}
	for _, n := range []uint32{p.sum, p.lies, p.length} {
		if p.hides {
			n = 0
		}
		b = long(b, n)
	}
	b = short(short(b, uint16(len(p.name))), uint16(len(p.localExtra)))
	b = append(append(b, p.name...), p.localExtra...)
	return append(append(b, p.lying...), p.behind...)
}

// record is what the directory says of an entry at a place.
func (p part) record(place int) []byte {
	b := long(nil, 0x02014B50)
	for _, n := range []uint16{p.version, p.version, p.flags, p.method, p.time, p.date} {
		b = short(b, n)
	}
	for _, n := range []uint32{p.sum, p.lies, p.length} {
		b = long(b, n)
	}
	for _, n := range []int{len(p.name), len(p.extra), len(p.comment), 0} {
		b = short(b, uint16(n))
	}
	b = long(long(short(b, p.attributes), p.outerAttributes), uint32(place))
	return append(append(append(b, p.name...), p.extra...), p.comment...)
}

// made is a file, and where things stand in it.
type made struct {
	bytes   []byte
	local   []int
	lying   []int
	behind  []int
	record  []int
	dir     int
	end     int
	entries []api.Entry
}

// lay is a file of parts, with a comment.
func lay(comment string, parts ...part) *made {
	m := new(made)
	var dir []byte
	var records []int
	for _, p := range parts {
		m.bytes = append(m.bytes, p.ahead...)
		place := len(m.bytes)
		m.local = append(m.local, place)
		m.lying = append(m.lying, place+localName+len(p.name)+len(p.localExtra))
		m.bytes = append(m.bytes, p.local()...)
		m.behind = append(m.behind, len(m.bytes)-len(p.behind))
		records = append(records, len(dir))
		dir = append(dir, p.record(place)...)
		m.entries = append(m.entries, api.Entry{Name: p.name, Data: p.data, Stored: p.method == 0})
	}
	m.dir = len(m.bytes)
	for _, at := range records {
		m.record = append(m.record, m.dir+at)
	}
	m.bytes = append(m.bytes, dir...)
	m.end = len(m.bytes)
	m.bytes = append(m.bytes, endOf(len(parts), len(dir), m.dir, comment)...)
	return m
}

// endOf is an end.
func endOf(entries, length, place int, comment string) []byte {
	b := long(nil, 0x06054B50)
	for _, n := range []int{0, 0, entries, entries} {
		b = short(b, uint16(n))
	}
	b = long(long(b, uint32(length)), uint32(place))
	return append(short(b, uint16(len(comment))), comment...)
}

// copied is the same file in other memory.
func (m *made) copied() *made {
	c := *m
	c.bytes = append([]byte(nil), m.bytes...)
	return &c
}

// short puts another number of two bytes at a place.
func (m *made) short(at int, n uint16) *made {
	binary.LittleEndian.PutUint16(m.bytes[at:], n)
	return m
}

// long puts another number of four bytes at a place.
func (m *made) long(at int, n uint32) *made {
	binary.LittleEndian.PutUint32(m.bytes[at:], n)
	return m
}

// both puts another number of four bytes into the local header of entry i and into the directory.
func (m *made) both(i, local, dir int, n uint32) *made {
	return m.long(m.local[i]+local, n).long(m.record[i]+dir, n)
}

// longAt is the number of four bytes at a place.
func (m *made) longAt(at int) uint32 { return binary.LittleEndian.Uint32(m.bytes[at:]) }

// mimetype is the entry that each list begins with.
func mimetype() api.Entry {
	return api.Entry{Name: "mimetype", Data: []byte(zip.Mimetype()), Stored: true}
}
