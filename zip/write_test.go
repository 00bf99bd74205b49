package zip_test

import (
	stdzip "archive/zip"
	"bytes"
	"io"
	"strconv"
	"strings"
	"testing"

	"gridiron/api"
	"gridiron/flate"
	"gridiron/zip"
)

// written is what Write answers, which must be a file.
func written(t *testing.T, l []api.Entry) []byte {
	t.Helper()
	b, errno := zip.Write(l)
	if errno != api.OK {
		t.Fatalf("Write: %v", errno)
	}
	return b
}

// unwritten holds that Write refuses entries.
func unwritten(t *testing.T, what string, l []api.Entry, errno api.Errno) {
	t.Helper()
	if b, got := zip.Write(l); got != errno || len(b) != 0 {
		t.Errorf("%s: Write: %d bytes, %v, want %v", what, len(b), got, errno)
	}
}

// listOf are n entries, the mimetype first.
func listOf(n int) []api.Entry {
	l := []api.Entry{mimetype()}
	for i := range n - 1 {
		l = append(l, api.Entry{Name: "part" + strconv.Itoa(i), Data: []byte(strings.Repeat("x", i)), Stored: i%3 == 0})
	}
	return l
}

// P4.2: the chapter's examples, the second one byte by byte.
func TestWriteExamples(t *testing.T) {
	unwritten(t, "nothing", nil, api.ErrZipFirst)
	unwritten(t, "nothing", []api.Entry{}, api.ErrZipFirst)
	b := written(t, []api.Entry{mimetype()})
	want := "PK\x03\x04\x14\x00\x00\x00\x00\x00\x00\x00\x21\x00" + "\x85\x6c\x39\x8a" + "\x2e\x00\x00\x00\x2e\x00\x00\x00\x08\x00\x00\x00mimetype" +
		"application/vnd.oasis.opendocument.spreadsheet" +
		"PK\x01\x02\x14\x00\x14\x00\x00\x00\x00\x00\x00\x00\x21\x00" + "\x85\x6c\x39\x8a" + "\x2e\x00\x00\x00\x2e\x00\x00\x00\x08\x00\x00\x00\x00\x00\x00\x00\x00\x00\x00\x00\x00\x00\x00\x00\x00\x00mimetype" +
		"PK\x05\x06\x00\x00\x00\x00\x01\x00\x01\x00\x36\x00\x00\x00\x54\x00\x00\x00\x00\x00"
	if string(b) != want || len(b) != 160 {
		t.Errorf("Write of the mimetype: %d bytes, %q, want %q", len(b), b, want)
	}
}

// P4.2: each field of a file, of entries of both methods, with names of few and of many bytes, of folders and of bytes above 127.
func TestWriteFields(t *testing.T) {
	draw := draws(42)
	utf8 := func(p part) part {
		p.flags = 2048
		return p
	}
	parts := []part{
		first(),
		deflated("content.xml", bytes.Repeat([]byte("<cell/>"), 3000)),
		stored("a/b", []byte("x")),
		stored("Pictures/", nil),
		deflated("empty", nil),
		deflated("drawn", draw.bytes(70000, 256)),
		utf8(stored("\u0080", []byte{0})),
		utf8(deflated("日本/é.xml", []byte("日本"))),
		utf8(stored("plain and at its end é", draw.bytes(300, 3))),
		deflated(strings.Repeat("n", 1024), []byte("long")),
		utf8(stored(strings.Repeat("é", 512), []byte("é"))),
		deflated("~}|", []byte("the last bytes below 127")),
	}
	m := lay("", parts...)
	if got := written(t, m.entries); !bytes.Equal(got, m.bytes) {
		at := 0
		for at < min(len(got), len(m.bytes)) && got[at] == m.bytes[at] {
			at++
		}
		t.Errorf("Write: %d bytes, want %d; unlike from %d on", len(got), len(m.bytes), at)
	}
}

// P4.2: the library's own reader finds the same in what is written.
func TestWriteForOthers(t *testing.T) {
	l := append(listOf(40), api.Entry{Name: "é/x", Data: []byte("y")}, api.Entry{Name: "folder/"}, api.Entry{Name: "much", Data: bytes.Repeat([]byte("much "), 40000)})
	b := written(t, l)
	r, err := stdzip.NewReader(bytes.NewReader(b), int64(len(b)))
	if err != nil || len(r.File) != len(l) {
		t.Fatal(err)
	}
	for i, f := range r.File {
		c, err := f.Open()
		if err != nil {
			t.Fatal(err)
		}
		data, err := io.ReadAll(c)
		if err != nil || f.Name != l[i].Name || !bytes.Equal(data, l[i].Data) || (f.Method == stdzip.Store) != l[i].Stored || f.NonUTF8 && strings.Contains(f.Name, "é") {
			t.Errorf("%q: %v, %d bytes", f.Name, err, len(data))
		}
	}
}

// P4.2: what lies there of an entry that is not stored is flate's own, even if it is longer.
func TestWriteDeflates(t *testing.T) {
	draw := draws(43)
	for _, n := range []int{0, 1, 100, 70000} {
		for _, kinds := range []int{1, 256} {
			data := draw.bytes(n, kinds)
			b := written(t, []api.Entry{mimetype(), {Name: "x", Data: data}})
			lying := flate.Deflate(data)
			if !bytes.HasPrefix(b[84+31:], lying) || len(b) != 160+31+len(lying)+47 {
				t.Errorf("%d bytes of %d kinds do not lie there deflated", n, kinds)
			}
		}
	}
}

// P4.2: how many entries there may be.
func TestWriteEntries(t *testing.T) {
	if api.MaxEntries != 256 {
		t.Fatal(api.MaxEntries)
	}
	for _, n := range []int{1, 2, 255, 256} {
		l := listOf(n)
		take(t, strconv.Itoa(n), written(t, l), api.MaxPart, l)
	}
	unwritten(t, "257 entries", listOf(257), api.ErrLong)
	unwritten(t, "1000 entries", listOf(1000), api.ErrLong)
}

// P4.2: names of each kind, ahead of and behind others.
func TestWriteNames(t *testing.T) {
	for _, name := range []string{"", "/", "/a", "a//b", ".", "..", "../a", "a/..", "a/./b", "a:b", "a\\b", "\x1f", "\x7f", "\xff", "\xc3", strings.Repeat("a", 1025)} {
		bad := api.Entry{Name: name, Data: []byte("x")}
		unwritten(t, name, []api.Entry{bad}, api.ErrZipName)
		unwritten(t, name, []api.Entry{mimetype(), bad}, api.ErrZipName)
		unwritten(t, name, []api.Entry{mimetype(), {Name: "a"}, bad, {Name: "b"}}, api.ErrZipName)
	}
	for _, name := range []string{"a", "Pictures/", "a/b", strings.Repeat("a", 1024), "é"} {
		l := []api.Entry{mimetype(), {Name: name, Data: []byte("x")}}
		take(t, name, written(t, l), 47, l)
	}
}

// P4.2: two entries of one name, wherever they stand.
func TestWriteTwice(t *testing.T) {
	unwritten(t, "mimetype", []api.Entry{mimetype(), mimetype()}, api.ErrTwice)
	unwritten(t, "a", []api.Entry{mimetype(), {Name: "a"}, {Name: "a", Data: []byte("x")}}, api.ErrTwice)
	unwritten(t, "far", append(listOf(200), api.Entry{Name: "part0"}), api.ErrTwice)
	l := []api.Entry{mimetype(), {Name: "a"}, {Name: "A"}, {Name: "a/"}, {Name: "a/a"}, {Name: "é"}, {Name: "e\u0301"}}
	take(t, "unlike", written(t, l), 46, l)
}

// P4.2: the first entry is named mimetype, is stored, and says what it must.
func TestWriteFirst(t *testing.T) {
	said := zip.Mimetype()
	for _, e := range []api.Entry{
		{Name: "mimetype", Data: []byte(said)},
		{Name: "mimetypes", Data: []byte(said), Stored: true},
		{Name: "Mimetype", Data: []byte(said), Stored: true},
		{Name: "mimetype/", Data: []byte(said), Stored: true},
		{Name: "mimetype", Stored: true},
		{Name: "mimetype", Data: []byte(said + "\n"), Stored: true},
		{Name: "mimetype", Data: []byte(said[:45]), Stored: true},
		{Name: "mimetype", Data: []byte(strings.ToUpper(said)), Stored: true},
		{Name: "mimetype", Data: []byte(said + "-template"), Stored: true},
		{Name: "content.xml", Data: []byte("x")},
	} {
		unwritten(t, e.Name, []api.Entry{e}, api.ErrZipFirst)
		unwritten(t, e.Name, []api.Entry{e, {Name: "a"}}, api.ErrZipFirst)
	}
	unwritten(t, "second", []api.Entry{{Name: "a"}, mimetype()}, api.ErrZipFirst)
}

// P4.2: contents of MaxPart bytes and of one more, alone and together; and there and back (P4.4).
func TestWriteMuch(t *testing.T) {
	if api.MaxPart != 1<<24 {
		t.Fatal(api.MaxPart)
	}
	much := make([]byte, api.MaxPart+1)
	unwritten(t, "MaxPart alone", []api.Entry{{Name: "a", Data: much[1:]}}, api.ErrZipFirst)
	unwritten(t, "more alone", []api.Entry{{Name: "a", Data: much}}, api.ErrLong)
	unwritten(t, "more as the mimetype", []api.Entry{{Name: "mimetype", Data: much, Stored: true}}, api.ErrLong)
	half := api.MaxPart/2 - 23
	for _, isStored := range []bool{true, false} {
		l := []api.Entry{mimetype(), {Name: "a", Data: much[:half], Stored: true}, {Name: "b", Data: much[:half], Stored: isStored}, {Name: "c"}}
		b := written(t, l)
		take(t, "together", b, api.MaxPart, l)
		take(t, "together", b, 1<<40, l)
		refuse(t, "one less", b, api.MaxPart-1, api.ErrLong)
	}
	unwritten(t, "one more together", []api.Entry{mimetype(), {Name: "a", Data: much[:half]}, {Name: "b", Data: much[:half+1]}}, api.ErrLong)
	unwritten(t, "one more behind", []api.Entry{mimetype(), {Name: "a", Data: much[:half]}, {Name: "b", Data: much[:half]}, {Name: "c", Data: much[:1]}}, api.ErrLong)
	unwritten(t, "one more alone behind", []api.Entry{mimetype(), {Name: "a", Data: much}}, api.ErrLong)
}

// P4.2, R2: of several things that are wrong the first one of the first entry is told.
func TestWriteOrder(t *testing.T) {
	much := make([]byte, api.MaxPart+1)
	unwritten(t, "name ahead of length", []api.Entry{mimetype(), {Name: "..", Data: much}}, api.ErrZipName)
	unwritten(t, "twice ahead of length", []api.Entry{mimetype(), {Name: "mimetype", Data: much}}, api.ErrTwice)
	unwritten(t, "length ahead of first", []api.Entry{{Name: "a", Data: much}}, api.ErrLong)
	unwritten(t, "name ahead of first", []api.Entry{{Name: ""}}, api.ErrZipName)
	unwritten(t, "twice ahead of first", []api.Entry{{Name: "a"}, {Name: "a"}}, api.ErrTwice)
	unwritten(t, "length, then name", []api.Entry{{Name: "a", Data: much}, {Name: ""}}, api.ErrLong)
	unwritten(t, "name, then length", []api.Entry{{Name: ""}, {Name: "a", Data: much}}, api.ErrZipName)
	unwritten(t, "twice, then name", []api.Entry{{Name: "a"}, {Name: "a"}, {Name: ""}}, api.ErrTwice)
	l := listOf(257)
	l[256].Name = ".."
	unwritten(t, "number ahead of name", l, api.ErrLong)
	l[256].Name = "mimetype"
	unwritten(t, "number ahead of twice", l, api.ErrLong)
	l[255].Name = ".."
	unwritten(t, "name, then number", l, api.ErrZipName)
	l[255].Name = "mimetype"
	unwritten(t, "twice, then number", l, api.ErrTwice)
	l[255] = api.Entry{Name: "a", Data: much}
	unwritten(t, "length, then number", l, api.ErrLong)
	l = listOf(257)
	l[0].Name = "a"
	unwritten(t, "number ahead of first", l, api.ErrLong)
	// two entries of one name that may not be: their name is told
	unwritten(t, "name ahead of twice", []api.Entry{{Name: "a:"}, {Name: "a:"}}, api.ErrZipName)
}

// P4.5, R4: the same entries are the same bytes, whatever was written between; in another order they are others.
func TestWriteOneForm(t *testing.T) {
	l := listOf(30)
	b := written(t, l)
	written(t, listOf(7))
	if !bytes.Equal(b, written(t, l)) {
		t.Error("the same entries are other bytes")
	}
	read, errno := zip.Read(b, 1<<20)
	if errno != api.OK || !bytes.Equal(b, written(t, read)) {
		t.Error("what was read is written as other bytes", errno)
	}
	// a file that others have laid is written in the one form too
	other := lay("a comment", hidden(first(), true), described(deflated("b", []byte("bbbb")), false))
	read, errno = zip.Read(other.bytes, 1<<20)
	if errno != api.OK || !bytes.Equal(written(t, read), lay("", first(), deflated("b", []byte("bbbb"))).bytes) {
		t.Error("another's file is written in another form", errno)
	}
	l[3], l[4] = l[4], l[3]
	if bytes.Equal(b, written(t, l)) {
		t.Error("entries in another order are the same bytes")
	}
}

// P4.4: there and back, with entries of all kinds and with each most that is enough.
func TestThereAndBack(t *testing.T) {
	draw := draws(44)
	for range 300 {
		l := []api.Entry{mimetype()}
		all := len(zip.Mimetype())
		for i := range draw.below(6) {
			name := strings.Repeat([]string{"a", "é", "b/", "."}[draw.below(4)], 3+draw.below(3)) + strconv.Itoa(i)
			data := draw.bytes(draw.below(600), 1+draw.below(256))
			all += len(data)
			l = append(l, api.Entry{Name: name, Data: data, Stored: draw.below(2) == 0})
		}
		b := written(t, l)
		for _, most := range []int{all, all + 1, 1 << 62} {
			take(t, "there and back", b, most, l)
		}
		for _, most := range []int{0, all - 1} {
			refuse(t, "too little", b, most, api.ErrLong)
		}
	}
}
