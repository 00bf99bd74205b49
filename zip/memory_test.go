package zip_test

import (
	"bytes"
	"testing"

	"gridiron/api"
	"gridiron/zip"
)

// roomy is b with room behind its end, which is filled.
func roomy(b []byte) []byte {
	all := append(append(make([]byte, 0, len(b)+64), b...), bytes.Repeat([]byte{0xA5}, 64)...)
	return all[:len(b)]
}

// untouched tells whether the room behind the end of a roomy list is as it was.
func untouched(b []byte) bool {
	return bytes.Equal(b[len(b):len(b)+64], bytes.Repeat([]byte{0xA5}, 64))
}

// fill puts c everywhere, in the room behind the end too.
func fill(b []byte, c byte) {
	b = b[:cap(b)]
	for i := range b {
		b[i] = c
	}
}

// R3: Write changes nothing that is handed in, and keeps none of it.
func TestWriteMemory(t *testing.T) {
	data := roomy([]byte("contents"))
	others := roomy([]byte("others others others"))
	l := make([]api.Entry, 3, 5)
	copy(l, []api.Entry{mimetype(), {Name: "a", Data: data, Stored: true}, {Name: "b", Data: others}})
	l[:5][3] = api.Entry{Name: "behind"}
	b := written(t, l)
	if string(data) != "contents" || string(others) != "others others others" || !untouched(data) || !untouched(others) || l[:5][3].Name != "behind" || l[:5][4].Name != "" {
		t.Error("Write has changed what was handed in")
	}
	own := append([]byte(nil), b...)
	fill(data, 'x')
	fill(others, 'y')
	if !bytes.Equal(b, own) {
		t.Error("a file shares memory with contents")
	}
	fill(b, 'z')
	if string(data) != "xxxxxxxx" || string(zip.Mimetype()) != string(mimetype().Data) {
		t.Error("contents share memory with a file")
	}
}

// R3: Read changes nothing that is handed in, keeps none of it, and no two entries share any memory.
func TestReadMemory(t *testing.T) {
	l := []api.Entry{mimetype(), {Name: "a", Data: []byte("aaaa"), Stored: true}, {Name: "b", Data: []byte("bbbbbbbb")}, {Name: "c", Data: []byte("cc"), Stored: true}, {Name: "d"}}
	b := roomy(written(t, l))
	own := append([]byte(nil), b...)
	got, errno := zip.Read(b, 1000)
	if errno != api.OK || !bytes.Equal(b, own) || !untouched(b) {
		t.Fatal("Read has changed what was handed in", errno)
	}
	fill(b, 'x')
	if !same(got, l) {
		t.Error("entries share memory with the file")
	}
	for i := range got {
		again, _ := zip.Read(own, 1000)
		fill(again[i].Data, 'y')
		for k := range again {
			if k != i && !bytes.Equal(again[k].Data, l[k].Data) {
				t.Error("entries share memory:", i, k)
			}
		}
	}
	for i := range got {
		fill(got[i].Data, 'z')
	}
	if !bytes.Equal(own, written(t, l)) {
		t.Error("the file shares memory with entries")
	}
}

// R3: Find answers contents of its own.
func TestFindMemory(t *testing.T) {
	data := roomy([]byte("data"))
	l := []api.Entry{{Name: "a", Data: data}}
	got, _ := zip.Find(l, "a")
	fill(got.Data, 'x')
	if string(data) != "data" || !untouched(data) {
		t.Error("the list shares memory with what was found")
	}
	got, _ = zip.Find(l, "a")
	fill(data, 'y')
	if string(got.Data) != "data" {
		t.Error("what was found shares memory with the list")
	}
}

// R3: Sum and Name leave all as it was; nil and empty lists are the same.
func TestNothingAndMemory(t *testing.T) {
	b := roomy([]byte("abc"))
	zip.Sum(b)
	if string(b) != "abc" || !untouched(b) {
		t.Error("Sum has changed what was handed in")
	}
	if zip.Sum(nil) != zip.Sum([]byte{}) {
		t.Error("Sum of nil and of no bytes")
	}
	nils := written(t, []api.Entry{mimetype(), {Name: "a"}, {Name: "b", Stored: true}})
	empties := written(t, []api.Entry{mimetype(), {Name: "a", Data: []byte{}}, {Name: "b", Data: []byte{}, Stored: true}})
	if !bytes.Equal(nils, empties) {
		t.Error("Write of nil and of no bytes")
	}
}
