package zip

import (
	"gridiron/api"
	"gridiron/flate"
)

// check is what is wrong with entries that are to be written.
func check(l []api.Entry) api.Errno {
	room := api.MaxPart
	for i, entry := range l {
		switch {
		case i >= api.MaxEntries:
			return api.ErrLong
		case !Name(entry.Name):
			return api.ErrZipName
		case indexOf(l[:i], entry.Name) >= 0:
			return api.ErrTwice
		case len(entry.Data) > room:
			return api.ErrLong
		}
		room -= len(entry.Data)
	}
	if !beginsWell(l) {
		return api.ErrZipFirst
	}
	return api.OK
}

// fileOf is a file with entries that may be written.
func fileOf(l []api.Entry) []byte {
	var file, directory output
	for _, entry := range l {
		lying := lyingOf(entry)
		told := record{head: headOf(entry, len(lying)), place: uint32(len(file.bytes))}
		file.local(told.head)
		file.raw(lying)
		directory.record(told)
	}
	place := len(file.bytes)
	file.raw(directory.bytes)
	file.end(len(l), len(directory.bytes), place)
	return file.bytes
}

// lyingOf is what lies in a file for the contents of an entry.
func lyingOf(entry api.Entry) []byte {
	if entry.Stored {
		return entry.Data
	}
	return flate.Deflate(entry.Data)
}

// headOf is what is said of an entry of which so many bytes lie there.
func headOf(entry api.Entry, lies int) head {
	h := head{method: methodDeflated, name: entry.Name}
	if entry.Stored {
		h.method = methodStored
	}
	for i := range len(entry.Name) {
		if entry.Name[i] > 127 {
			h.flags = flagUTF8
		}
	}
	h.longs = longs{sum: Sum(entry.Data), lies: uint32(lies), length: uint32(len(entry.Data))}
	return h
}

// output is bytes that are written one piece behind the other.
type output struct {
	bytes []byte
}

// local puts a local header, without an extra field.
func (o *output) local(h head) {
	o.long(localMark)
	o.shorts(writtenVersion)
	o.head(h)
	o.shorts(uint16(len(h.name)), 0)
	o.text(h.name)
}

// record puts an entry of the directory, without an extra field and a comment, and with attributes 0.
func (o *output) record(told record) {
	o.long(recordMark)
	o.shorts(writtenVersion, writtenVersion)
	o.head(told.head)
	o.shorts(uint16(len(told.name)), 0, 0, told.disk, 0)
	o.long(0)
	o.long(told.place)
	o.text(told.name)
}

// head puts what stands in the same order in a local header and in the directory.
func (o *output) head(h head) {
	o.shorts(h.flags, h.method, writtenTime, writtenDate)
	o.longs(h.longs)
}

// end puts the end, without a comment.
func (o *output) end(entries, length, place int) {
	o.long(endMark)
	o.shorts(0, 0, uint16(entries), uint16(entries))
	o.long(uint32(length))
	o.long(uint32(place))
	o.shorts(0)
}

// shorts puts numbers of two bytes.
func (o *output) shorts(l ...uint16) {
	for _, n := range l {
		o.bytes = append(o.bytes, byte(n), byte(n>>8))
	}
}

// long puts a number of four bytes.
func (o *output) long(n uint32) {
	o.shorts(uint16(n), uint16(n>>16))
}

// longs puts the three longs of an entry.
func (o *output) longs(l longs) {
	o.long(l.sum)
	o.long(l.lies)
	o.long(l.length)
}

// raw puts bytes.
func (o *output) raw(b []byte) {
	o.bytes = append(o.bytes, b...)
}

// text puts the bytes of a text.
func (o *output) text(s string) {
	o.bytes = append(o.bytes, s...)
}
