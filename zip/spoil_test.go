package zip_test

import (
	"bytes"
	"math"
	"slices"
	"strconv"
	"testing"

	"gridiron/api"
	"gridiron/zip"
)

// fault is something that is wrong with the file of TestReadOrder, and what is answered for it.
type fault struct {
	what  string
	errno api.Errno
	turn  func(m *made)
}

// faults are in the order in which Read looks for them; they turn the second of three entries, if they say nothing else.
func faults() []fault {
	return []fault{
		{"disk of the end", api.ErrZipKind, func(m *made) { m.short(m.end+endDisk, 1) }},
		{"number of entries", api.ErrLong, func(m *made) { m.short(m.end+endHere, 257).short(m.end+endAll, 257) }},
		{"length of the directory", api.ErrZipDir, func(m *made) { m.long(m.end+endLength, 1) }},
		{"mark of the directory's entry", api.ErrZipDir, func(m *made) { m.long(m.record[1], 0) }},
		{"its flags", api.ErrZipKind, func(m *made) { m.short(m.record[1]+dirFlags, 9) }},
		{"its name", api.ErrZipName, func(m *made) { m.bytes[m.record[1]+dirName] = ':' }},
		{"its name twice", api.ErrTwice, func(m *made) { copy(m.bytes[m.record[1]+dirName:], "mimetype") }},
		{"its place", api.ErrZipDir, func(m *made) { m.long(m.record[1]+dirPlace, 0) }},
		{"its local header", api.ErrZipHead, func(m *made) { m.long(m.local[1], 0) }},
		{"how much lies there", api.ErrZipDir, func(m *made) { m.both(1, localLies, dirLies, 4294967294) }},
		{"how long it is", api.ErrLong, func(m *made) { m.both(1, localLength, dirLength, plenty) }},
		{"what lies there", api.ErrZipDeflate, func(m *made) { m.bytes[m.lying[1]] = 7 }},
		{"its sum", api.ErrZipSum, func(m *made) { m.both(1, localSum, dirSum, 1) }},
		{"what stands behind it", api.ErrZipHead, func(m *made) { m.long(m.behind[1], 0) }},
		{"name of the third one", api.ErrZipName, func(m *made) { m.bytes[m.record[2]+dirName] = ':' }},
		{"fewer entries", api.ErrZipDir, func(m *made) { m.short(m.end+endHere, 2).short(m.end+endAll, 2) }},
		{"name of the first one", api.ErrZipFirst, func(m *made) {
			m.bytes[m.record[0]+dirName] = 'M'
			m.bytes[m.local[0]+localName] = 'M'
		}},
	}
}

// R2, P4.3: of each two things that are wrong, the one that is looked at first is told.
func TestReadOrder(t *testing.T) {
	whole := lay("", first(), described(deflated("contents", []byte("contents contents")), true), stored("x", []byte("x")))
	l := faults()
	for i, one := range l {
		m := whole.copied()
		one.turn(m)
		refuse(t, one.what, m.bytes, plenty, one.errno)
		for _, two := range l[i+1:] {
			if turnSame(one.what, two.what) {
				continue
			}
			m := whole.copied()
			two.turn(m)
			one.turn(m)
			refuse(t, one.what+" and "+two.what, m.bytes, plenty, one.errno)
			refuse(t, one.what+" and "+two.what, m.bytes, -1, api.ErrArg)
		}
	}
}

// turnSame tells whether two faults can't stand in one file: they turn the same bytes, or one hides what the other turns.
func turnSame(one, two string) bool {
	switch one + ", " + two {
	case "number of entries, fewer entries", "its name, its name twice", "its name twice, name of the first one", "name of the third one, fewer entries":
		return true
	}
	return false
}

// P4.6: with a byte of stored contents turned the file is refused, whichever bits of it are turned.
func TestTurnedContents(t *testing.T) {
	m := sample()
	for i, e := range m.entries {
		if !e.Stored {
			continue
		}
		for k := range e.Data {
			for turn := 1; turn < 256; turn++ {
				other := m.copied()
				other.bytes[m.lying[i]+k] ^= byte(turn)
				refuse(t, "turned", other.bytes, plenty, api.ErrZipSum)
			}
		}
	}
}

// P4.3, P4.6: each bit of a file turned, each byte taken out, and one put in at each place.
func TestTurnedFile(t *testing.T) {
	m := sample()
	for at := range m.bytes {
		for bit := range 8 {
			other := m.copied()
			other.bytes[at] ^= 1 << bit
			asModel(t, "turned at "+strconv.Itoa(at), other.bytes, plenty)
		}
		for _, c := range []byte{0, 1, 'P', 255, m.bytes[at]} {
			if asModel(t, "put in at "+strconv.Itoa(at), slices.Insert(slices.Clone(m.bytes), at, c), plenty) == api.OK {
				t.Errorf("with the byte %d put in at %d it is taken", c, at)
			}
		}
		if asModel(t, "taken out at "+strconv.Itoa(at), slices.Delete(slices.Clone(m.bytes), at, at+1), plenty) == api.OK {
			t.Errorf("without its byte %d it is taken", at)
		}
	}
	for _, c := range []byte{0, 1, 'P', 255} {
		refuse(t, "a byte behind", append(slices.Clone(m.bytes), c), plenty, api.ErrZipEnd)
	}
}

// P4.6: each byte of a file that is taken belongs to an entry, to the directory, or to the end.
func TestWholeFile(t *testing.T) {
	draw := draws(45)
	for range 200 {
		m := drawnFile(&draw)
		if asModel(t, "drawn", m.bytes, plenty) != api.OK {
			t.Fatalf("%x is not taken", m.bytes)
		}
		at := draw.below(len(m.bytes) + 1)
		more := slices.Insert(slices.Clone(m.bytes), at, draw.bytes(1+draw.below(3), 256)...)
		if asModel(t, "with more", more, plenty) == api.OK {
			t.Errorf("with bytes put in at %d it is taken: %x", at, more)
		}
	}
}

// drawnPart is an entry of some kind.
func drawnPart(draw *draws, name string) part {
	data := draw.bytes(draw.below(12), 1+draw.below(256))
	p := stored(name, data)
	if draw.below(2) == 0 {
		p = deflated(name, data)
	}
	p.flags = []uint16{0, 2, 4, 2048, 2054}[draw.below(5)]
	p.localExtra = draw.bytes(draw.below(3), 256)
	p.extra = draw.bytes(draw.below(3), 256)
	p.comment = draw.bytes(draw.below(3), 256)
	switch draw.below(6) {
	case 0:
		p = described(p, draw.below(2) == 0)
	case 1:
		p = hidden(p, draw.below(2) == 0)
	}
	return p
}

// drawnFile is a file that is taken.
func drawnFile(draw *draws) *made {
	parts := []part{first()}
	for i := range draw.below(4) {
		parts = append(parts, drawnPart(draw, []string{"a", "b/c", "é"}[draw.below(3)]+strconv.Itoa(i)))
	}
	return lay(string(draw.bytes(draw.below(3), 80)), parts...)
}

// R1, R2, P4.3: files with some of their numbers and bytes turned, against the model.
func TestSpoiltFiles(t *testing.T) {
	draw := draws(46)
	seen := map[api.Errno]int{}
	for range 30000 {
		m := drawnFile(&draw)
		for range 1 + draw.below(3) {
			spoil(&draw, m)
		}
		seen[asModel(t, "spoilt", m.bytes, []int{plenty, 0, 50, math.MaxInt}[draw.below(4)])]++
	}
	for _, errno := range []api.Errno{api.OK, api.ErrLong, api.ErrTwice, api.ErrZipEnd, api.ErrZipKind, api.ErrZipDir, api.ErrZipHead, api.ErrZipSum, api.ErrZipName, api.ErrZipFirst, api.ErrZipDeflate} {
		if seen[errno] == 0 {
			t.Errorf("no spoilt file is answered by %v", errno)
		}
	}
}

// spoil turns something of a file that keeps its places.
func spoil(draw *draws, m *made) {
	i := draw.below(len(m.local))
	numbers := []uint32{0, 1, 2, 8, 255, 256, 257, 65534, 65535, 1 << 24, 4294967294, 4294967295, uint32(m.dir), uint32(m.end), uint32(len(m.bytes)), uint32(m.local[i])}
	n := numbers[draw.below(len(numbers))]
	locals := []int{localSum, localLies, localLength}
	dirs := []int{dirSum, dirLies, dirLength}
	k := draw.below(3)
	switch draw.below(10) {
	case 0:
		m.bytes[draw.below(len(m.bytes))] ^= 1 << draw.below(8)
	case 1:
		m.both(i, locals[k], dirs[k], n)
	case 2:
		m.both(i, locals[k], dirs[k], m.longAt(m.record[i]+dirs[k])+uint32(draw.below(3))-1)
	case 3:
		m.short(m.record[i]+[]int{dirFlags, dirMethod, dirNames, dirExtras, dirComments, dirDisk}[draw.below(6)], uint16(n))
	case 4:
		m.short(m.local[i]+[]int{localFlags, localMethod, localNames, localExtras}[draw.below(4)], uint16(n))
	case 5:
		m.long(m.record[i]+dirPlace, n)
	case 6:
		m.short(m.end+[]int{endDisk, endFirst, endHere, endAll, endComment}[draw.below(5)], uint16(n))
	case 7:
		m.long(m.end+[]int{endLength, endPlace}[draw.below(2)], n)
	case 8:
		m.bytes[m.record[i]+dirName] = ":./aAb\xffm"[draw.below(8)]
		m.bytes[m.local[i]+localName] = m.bytes[m.record[i]+dirName]
	case 9:
		// the name of another one, if it is as long
		if k := draw.below(len(m.local)); m.at(m.record[i]+dirNames) == m.at(m.record[k]+dirNames) {
			copy(m.bytes[m.record[i]+dirName:], m.bytes[m.record[k]+dirName:][:len(m.entries[k].Name)])
		}
	}
}

// R1: bytes that are no file at all, and such that have a true end behind them.
func TestDrawnBytes(t *testing.T) {
	draw := draws(47)
	for range 3000 {
		b := draw.bytes(draw.below(200), 1+draw.below(256))
		asModel(t, "drawn", b, draw.below(100))
		place := draw.below(len(b) + 1)
		asModel(t, "drawn, with an end", append(b, endOf(draw.below(3), len(b)-place, place, "")...), plenty)
	}
	marks := []byte("PK\x01\x02PK\x03\x04PK\x05\x06PK\x07\x08")
	for n := range 2000 {
		asModel(t, "marks", bytes.Repeat(marks, 1+n/16)[:n], plenty)
	}
}

// R4: a file that was refused leaves nothing behind for the next one.
func TestReadAgain(t *testing.T) {
	m := sample()
	bad := m.copied()
	bad.bytes[m.lying[6]] ^= 1
	for range 3 {
		refuse(t, "bad", bad.bytes, plenty, api.ErrZipSum)
		take(t, "good", m.bytes, plenty, m.entries)
		if _, errno := zip.Read(nil, 0); errno != api.ErrZipEnd {
			t.Error(errno)
		}
	}
}
