package zip

import (
	"bytes"

	"gridiron/api"
)

// refusal is what is thrown when a file is given up; Read catches it.
type refusal struct {
	errno api.Errno
}

// hold gives the file up, if something does not hold.
func hold(holds bool, errno api.Errno) {
	if !holds {
		panic(refusal{errno})
	}
}

// reader goes through a stretch of a file, and gives the file up where the stretch ends too early.
type reader struct {
	bytes []byte    // the file up to the stretch's end
	at    int       // where it is gone on
	lack  api.Errno // what is answered, if what is asked for does not stand there
}

// left is how many bytes there are still.
func (r *reader) left() int {
	return len(r.bytes) - r.at
}

// take is the next n bytes, still those of the file.
func (r *reader) take(n int) []byte {
	hold(n <= r.left(), r.lack)
	taken := r.bytes[r.at : r.at+n]
	r.at += n
	return taken
}

// skip goes past n bytes of which nothing is asked.
func (r *reader) skip(n int) {
	r.take(n)
}

// short is the next number of two bytes.
func (r *reader) short() uint16 {
	b := r.take(2)
	return uint16(b[0]) | uint16(b[1])<<8
}

// long is the next number of four bytes.
func (r *reader) long() uint32 {
	low := r.short()
	return uint32(low) | uint32(r.short())<<16
}

// size is the next number of two bytes, as how many bytes something has.
func (r *reader) size() int {
	return int(r.short())
}

// mark goes past the mark that stands there.
func (r *reader) mark(mark uint32) {
	hold(r.long() == mark, r.lack)
}

// longs are the three longs of an entry.
func (r *reader) longs() longs {
	var l longs
	l.sum = r.long()
	l.lies = r.long()
	l.length = r.long()
	return l
}

// head is what stands in the same order in a local header and in the directory, but for the name.
func (r *reader) head() head {
	var h head
	h.flags = r.short()
	h.method = r.short()
	r.skip(4) // time and date
	h.longs = r.longs()
	return h
}

// local is the local header that stands there.
func (r *reader) local() head {
	r.mark(localMark)
	r.skip(2) // version
	h := r.head()
	name, extra := r.size(), r.size()
	h.name = string(r.take(name))
	r.skip(extra)
	return h
}

// record is the entry of the directory that stands there.
func (r *reader) record() record {
	r.mark(recordMark)
	r.skip(4) // versions
	told := record{head: r.head()}
	name, extra, comment := r.size(), r.size(), r.size()
	told.disk = r.short()
	r.skip(6) // attributes
	told.place = r.long()
	told.name = string(r.take(name))
	r.skip(extra)
	r.skip(comment)
	return told
}

// descriptor goes past the three longs behind an entry, with the mark ahead of them or without it.
func (r *reader) descriptor(told longs) {
	var marked output
	marked.long(descriptorMark)
	marked.longs(told)
	plain := marked.bytes[4:]
	rest := r.bytes[r.at:]
	switch {
	case bytes.HasPrefix(rest, marked.bytes):
		r.skip(len(marked.bytes))
	case bytes.HasPrefix(rest, plain):
		r.skip(len(plain))
	default:
		hold(false, r.lack)
	}
}
