package zip

import (
	"gridiron/api"
	"gridiron/flate"
)

// entriesOf are the entries of a file whose contents are at most so many bytes in all; it gives up where the file can't be read.
func entriesOf(b []byte, most int) []api.Entry {
	place := placeOfEnd(b)
	told := endAt(b, place)
	directory := reader{bytes: b[:place], at: int(told.place), lack: api.ErrZipDir}
	f := file{body: reader{bytes: b[:told.place], lack: api.ErrZipHead}, room: most}
	for range told.entries {
		f.add(directory.record())
	}
	hold(directory.left() == 0 && f.body.left() == 0, api.ErrZipDir)
	hold(beginsWell(f.entries), api.ErrZipFirst)
	return f.entries
}

// placeOfEnd is the greatest place at which an end stands that reaches just to the last byte.
func placeOfEnd(b []byte) int {
	last := len(b) - endSize
	// a comment is no longer than a short can say
	for at := last; at >= 0 && last-at <= 0xFFFF; at-- {
		r := reader{bytes: b, at: at, lack: api.ErrZipEnd}
		if r.long() != endMark {
			continue
		}
		r.skip(endSize - 6)
		if r.size() == last-at {
			return at
		}
	}
	panic(refusal{api.ErrZipEnd})
}

// end is what the end says of the directory.
type end struct {
	entries uint16
	length  uint32
	place   uint32
}

// endAt is the end that stands at a place, if it is one that is taken.
func endAt(b []byte, place int) end {
	var e end
	r := reader{bytes: b, at: place, lack: api.ErrZipEnd}
	r.mark(endMark)
	disk, first, here := r.short(), r.short(), r.short()
	e.entries = r.short()
	e.length = r.long()
	e.place = r.long()
	hold(disk == 0 && first == 0, api.ErrZipKind)
	hold(here == e.entries && here != elsewhereShort, api.ErrZipKind)
	hold(e.length != elsewhereLong && e.place != elsewhereLong, api.ErrZipKind)
	hold(e.entries <= api.MaxEntries, api.ErrLong)
	hold(uint64(e.place)+uint64(e.length) == uint64(place), api.ErrZipDir)
	return e
}

// file is a file whose entries are read one behind the other.
type file struct {
	body    reader // what stands ahead of the directory
	entries []api.Entry
	room    int // how many bytes the contents to come may have
}

// add reads the entry that the directory tells next.
func (f *file) add(told record) {
	hold(told.taken(), api.ErrZipKind)
	hold(Name(told.name), api.ErrZipName)
	hold(indexOf(f.entries, told.name) < 0, api.ErrTwice)
	hold(uint64(told.place) == uint64(f.body.at), api.ErrZipDir)
	hold(told.fits(f.body.local()), api.ErrZipHead)
	hold(uint64(told.longs.lies) <= uint64(f.body.left()), api.ErrZipDir)
	hold(uint64(told.longs.length) <= uint64(f.room), api.ErrLong)
	data := contentsOf(told.head, f.body.take(int(told.longs.lies)))
	hold(len(data) == int(told.longs.length) && Sum(data) == told.longs.sum, api.ErrZipSum)
	if told.described() {
		f.body.descriptor(told.longs)
	}
	f.room -= len(data)
	f.entries = append(f.entries, api.Entry{Name: told.name, Data: data, Stored: told.method == methodStored})
}

// taken tells whether an entry is of a kind that is read here.
func (told record) taken() bool {
	if told.flags&^flagsTaken != 0 || told.disk != 0 || told.place == elsewhereLong {
		return false
	}
	if told.method != methodStored && told.method != methodDeflated {
		return false
	}
	l := told.longs
	return l.sum != elsewhereLong && l.lies != elsewhereLong && l.length != elsewhereLong
}

// fits tells whether a local header says what the directory tells.
func (told record) fits(local head) bool {
	if told.described() && local.longs == (longs{}) {
		local.longs = told.longs
	}
	return local == told.head
}

// contentsOf are the contents of which these bytes lie there, in memory of their own.
func contentsOf(h head, lying []byte) []byte {
	if h.method == methodStored {
		hold(h.longs.lies == h.longs.length, api.ErrZipDeflate)
		return copyOf(lying)
	}
	data, used, errno := flate.Inflate(lying, int(h.longs.length))
	hold(errno == api.OK && used == len(lying), api.ErrZipDeflate)
	return data
}
