package chars_test

import (
	"testing"

	"gridiron/chars"
)

// P5.2: the chapter's example, nothing, and what is wrong at the beginning, in the middle and at the end.
func TestValid(t *testing.T) {
	for _, c := range []struct {
		s  string
		at int
		ok bool
	}{
		{"a\x00", 1, false}, {"", 0, true}, {"a", 0, true}, {"aé€\U0001F600", 0, true},
		{"\x00", 0, false}, {"\x00a", 0, false}, {"é\x00b", 2, false},
		{"\xff", 0, false}, {"\xffab", 0, false}, {"a\xffb", 1, false}, {"ab\xff", 2, false}, {"ab\x80", 2, false},
		{"é\xc3", 2, false}, {"a\xe2\x82", 1, false}, {"a\xe2", 1, false}, {"a\xf0\x9f\x98", 1, false}, {"\xe2\x82a", 0, false}, {"\xe2é", 0, false},
		{"a\xc0\x80", 1, false}, {"\xc1\xbf", 0, false}, {"\xe0\x9f\xbf", 0, false}, {"\xf0\x8f\xbf\xbf", 0, false},
		{"\xe0\xa0\x80", 0, true}, {"\xf0\x90\x80\x80", 0, true}, {"\xc2\x80", 0, true},
		{"a\xed\xa0\x80", 1, false}, {"\xed\xbf\xbf", 0, false}, {"\xed\x9f\xbf", 0, true}, {"\xee\x80\x80", 0, true},
		{"\xed\xa0\xbd\xed\xb8\x80", 0, false}, {"\xf4\x8f\xbf\xbf", 0, true}, {"\xf4\x90\x80\x80", 0, false}, {"\xf8\x88\x80\x80\x80", 0, false},
		{"\uFFFD", 0, true}, {"a\uFFFDb", 0, true}, {"\uFFFD\xff", 3, false}, {"\xff\uFFFD", 0, false}, {"\uFFFD\uFFFD", 0, true}, {"\xef\xbf", 0, false},
		{"\uFFFE", 0, false}, {"a\uFFFF", 1, false}, {"\U0001FFFE", 0, true},
		{"\t\n\r ", 0, true}, {"\v", 0, false}, {" \x1f", 1, false}, {"\x7f\u0085", 0, true}, {"\ufeffa", 0, true},
		{"a\x00\xff", 1, false}, {"a\xff\x00", 1, false},
	} {
		if at, ok := chars.Valid(c.s); at != c.at || ok != c.ok {
			t.Errorf("Valid(%q): %d, %v, want %d, %v", c.s, at, ok, c.at, c.ok)
		}
	}
}

// P5.2: names, those without a beginning, and those with something in them that may not be there.
func TestName(t *testing.T) {
	for s, want := range map[string]bool{
		"a-1": true, "1a": false, "": false, "a:b": false,
		"a": true, "_": true, "é": true, "é1": true, "a.b-c_d": true, "a·": true, "·a": false, "-a": false, ".a": false,
		":": false, ":a": false, "a:": false, "a b": false, " a": false, "a ": false, "a\n": false, "1": false,
		"a\u0300": true, "\u0300a": false, "a\u203f": true, "\u2040": false, "\U00010000": true, "\U000F0000": false, "a\U000EFFFF": true,
		"\uFFFD": true, "a\uFFFD": true, "a\xff": false, "\xff": false, "\xffa": false, "a\xc3": false, "a\xed\xa0\x80": false,
		"a\x00": false, "a\uFFFE": false, "a×b": false, "xml": true, "A9Z": true,
	} {
		if chars.Name(s) != want {
			t.Errorf("Name(%q): %v", s, !want)
		}
	}
}

// P5.2, R2: names with and without a prefix; beside false nothing.
func TestSplit(t *testing.T) {
	for s, want := range map[string][2]string{
		"x:y": {"x", "y"}, "a": {"", "a"}, "a-1": {"", "a-1"}, "é:ü1": {"é", "ü1"}, "office:value-type": {"office", "value-type"},
		"xmlns": {"", "xmlns"}, "xmlns:a": {"xmlns", "a"}, "_:_": {"_", "_"}, "\uFFFD:a": {"\uFFFD", "a"},
	} {
		if prefix, own, ok := chars.Split(s); prefix != want[0] || own != want[1] || !ok {
			t.Errorf("Split(%q): %q, %q, %v", s, prefix, own, ok)
		}
	}
	for _, s := range []string{"", ":", "::", ":a", "a:", "a::b", "a:b:c", "a:b:", ":a:b", "1:a", "a:1", "1a", "1a:b", "a:-b", "a b:c", "a:b c", " a:b", "a\xff", "a\xff:b", "a:\xff", "\xff:b", "a\x00:b", "a:b\x00", "-", "a:b\uFFFE"} {
		if prefix, own, ok := chars.Split(s); prefix != "" || own != "" || ok {
			t.Errorf("Split(%q): %q, %q, %v", s, prefix, own, ok)
		}
	}
}
