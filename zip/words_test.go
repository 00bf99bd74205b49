package zip_test

import (
	"hash/crc32"
	"strings"
	"testing"

	"gridiron/api"
	"gridiron/zip"
)

// P4.1: what the first entry says.
func TestMimetype(t *testing.T) {
	if got := zip.Mimetype(); got != "application/vnd.oasis.opendocument.spreadsheet" {
		t.Errorf("Mimetype: %q", got)
	}
}

// remainder divides as P4.1 says it, bit by bit and without any turning of the polynomial.
func remainder(b []byte) uint32 {
	var bits []byte
	for _, c := range append(append([]byte(nil), b...), 0, 0, 0, 0) {
		for k := range 8 {
			bits = append(bits, c>>k&1)
		}
	}
	for i := range 32 {
		bits[i] ^= 1
	}
	for i := range 8 * len(b) {
		if bits[i] == 1 {
			bits[i] = 0
			for k := range 32 {
				bits[i+1+k] ^= byte(uint32(0x04C11DB7) >> (31 - k) & 1)
			}
		}
	}
	var sum uint32
	for k, bit := range bits[8*len(b):] {
		sum |= uint32(bit) << k
	}
	return ^sum
}

// P4.1: the chapter's example, no bytes, each byte, and long ones, against the division itself.
func TestSum(t *testing.T) {
	if got := zip.Sum([]byte("123456789")); got != 0xCBF43926 {
		t.Errorf("Sum of 123456789: %X", got)
	}
	if got := zip.Sum(nil); got != 0 {
		t.Errorf("Sum of nothing: %X", got)
	}
	if got := zip.Sum([]byte{255, 255, 255, 255}); got != 0xFFFFFFFF {
		t.Errorf("Sum of four times 255: %X", got)
	}
	for c := range 256 {
		if b := []byte{byte(c)}; zip.Sum(b) != remainder(b) {
			t.Errorf("Sum(%v): %X, want %X", b, zip.Sum(b), remainder(b))
		}
	}
	draw := draws(41)
	for n := range 300 {
		b := draw.bytes(n, 256)
		if got, want := zip.Sum(b), remainder(b); got != want {
			t.Errorf("Sum(%v): %X, want %X", b, got, want)
		}
	}
	b := draw.bytes(1<<20, 256)
	if got, want := zip.Sum(b), crc32.ChecksumIEEE(b); got != want {
		t.Errorf("Sum of a million bytes: %X, want %X", got, want)
	}
}

// P4.1: names that may be, and such that may not.
func TestName(t *testing.T) {
	for _, s := range []string{
		"a", "a/b", "Pictures/", "a/b/c/", "...", "..a", "a..", ".a", "a.", ". ", "a/...", ".../a", "a/.b/c", " ", "a b", "é", "日本/x.xml", "\U0010FFFF", "\u0080", "content.xml", "*?<>|\"'", "META-INF/manifest.xml", "~", strings.Repeat("a", 1024), strings.Repeat("é", 512), strings.Repeat("a/", 512),
	} {
		if !zip.Name(s) {
			t.Errorf("Name(%q): false", s)
		}
	}
	for _, s := range []string{
		"", "/", "//", ".", "..", "./", "../", "./a", "../a", "/a", "a//b", "a//", "a/./b", "a/../b", "a/.", "a/..", "a/./", "a/../", "/..", "a/b//", "/a/", "a:b", "C:", ":", "a\\b", "\\", "..\\a",
		"\xff", "a\xc3", "\xc3a", "\xc0\xaf", "\xed\xa0\x80", "\xf4\x90\x80\x80", "\xe2\x82", "\x80", "a/\xbf/",
		strings.Repeat("a", 1025), strings.Repeat("é", 512) + "a", strings.Repeat("a/", 512) + "a", "a\x00", "\x1f", "\x7f", "a\nb", "a\tb",
	} {
		if zip.Name(s) {
			t.Errorf("Name(%q): true", s)
		}
	}
}

// P4.1: each byte at the beginning, in the middle and at the end of a name.
func TestNameBytes(t *testing.T) {
	for c := range 256 {
		s := string([]byte{byte(c)})
		may := c >= 32 && c < 127 && c != '\\' && c != ':'
		for what, name := range map[string]string{"middle": "a" + s + "b", "end": "a" + s, "beginning": s + "b"} {
			want := may && !(c == '/' && what == "beginning")
			if got := zip.Name(name); got != want {
				t.Errorf("Name(%q): %v, want %v", name, got, want)
			}
		}
	}
}

// P4.1: every name of a few characters that matter.
func TestShortNames(t *testing.T) {
	names := []string{""}
	for range 6 {
		var longer []string
		for _, s := range names {
			for _, c := range []string{"a", ".", "/", "\x1f", "é"} {
				longer = append(longer, s+c)
			}
		}
		for _, s := range longer {
			if got, want := zip.Name(s), mayBe(s); got != want {
				t.Fatalf("Name(%q): %v, want %v", s, got, want)
			}
		}
		names = longer
	}
}

// P4.1, R2: the first entry of a name, or nothing.
func TestFind(t *testing.T) {
	l := []api.Entry{mimetype(), {Name: "a", Data: []byte("1")}, {Name: "b", Data: []byte("2"), Stored: true}, {Name: "a", Data: []byte("3"), Stored: true}, {Name: "", Data: []byte("4")}}
	for _, c := range []struct{ name, data string }{{"mimetype", zip.Mimetype()}, {"a", "1"}, {"b", "2"}, {"", "4"}} {
		got, ok := zip.Find(l, c.name)
		if !ok || got.Name != c.name || string(got.Data) != c.data || got.Stored != (c.name == "mimetype" || c.name == "b") {
			t.Errorf("Find(%q): %v, %v", c.name, got, ok)
		}
	}
	for _, name := range []string{"c", "A", "a/", "a ", "mimetyp", "mimetypes"} {
		if got, ok := zip.Find(l, name); ok || got.Name != "" || len(got.Data) != 0 || got.Stored {
			t.Errorf("Find(%q): %v, %v", name, got, ok)
		}
	}
	if got, ok := zip.Find(nil, ""); ok || got.Name != "" || len(got.Data) != 0 || got.Stored {
		t.Errorf("Find in nothing: %v, %v", got, ok)
	}
}
