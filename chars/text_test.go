package chars_test

import (
	"math"
	"strings"
	"testing"

	"gridiron/chars"
)

// P5.4: D, D A, A D and D D A, at the beginning, in the middle and at the end.
func TestLines(t *testing.T) {
	for s, want := range map[string]string{
		"": "", "a": "a", "\r": "\n", "\n": "\n", "\r\n": "\n", "\n\r": "\n\n", "\r\r\n": "\n\n", "\r\n\r\n": "\n\n", "\r\r": "\n\n", "\n\n": "\n\n", "\r\n\n": "\n\n", "\n\r\n": "\n\n",
		"\ra": "\na", "a\r": "a\n", "\r\na": "\na", "a\r\n": "a\n", "\n\ra": "\n\na", "a\n\r": "a\n\n", "\r\r\na": "\n\na", "a\r\r\n": "a\n\n", "a\r\nb\rc": "a\nb\nc", "a\r\n\rb": "a\n\nb",
		"\xff\r\xff": "\xff\n\xff", "é\r\né": "é\né", "\xc3\r\n": "\xc3\n", "\x00\r": "\x00\n", "\r\xc3": "\n\xc3", "\t\v\u0085\u2028": "\t\v\u0085\u2028", "\uFFFD\xed\xa0\x80": "\uFFFD\xed\xa0\x80", "&#13;": "&#13;",
	} {
		if got := chars.Lines(s); got != want {
			t.Errorf("Lines(%q): %q, want %q", s, got, want)
		}
	}
}

// P5.4: characters are counted, and bytes that are none one by one.
func TestCount(t *testing.T) {
	for s, want := range map[string]int{
		"": 0, "é": 1, "abc": 3, "aé€\U0001F600": 4, "\x00": 1, "\xff": 1, "\xff\xfe": 2, "a\xffb": 3, "\xe2\x82": 2, "\xe2\x82\xac": 1, "\xe2\x82a": 3, "a\xe2\x82": 3, "\xf0\x9f\x98": 3, "\xf0\x9f\x98é": 4,
		"\xc0\x80": 2, "\xed\xa0\x80": 3, "\xed\xa0\xbd\xed\xb8\x80": 6, "\xf4\x90\x80\x80": 4, "\xf8\x88\x80\x80\x80": 5, "\uFFFD": 1, "\uFFFE\uFFFF": 2, "e\u0301": 2, "\r\n": 2,
	} {
		if got := chars.Count(s); got != want {
			t.Errorf("Count(%q): %d, want %d", s, got, want)
		}
	}
}

// P5.4: from and n below 0, 0, just as many as there are, one more, and the greatest int.
func TestCut(t *testing.T) {
	const least, most = math.MinInt, math.MaxInt
	for _, c := range []struct {
		s       string
		from, n int
		want    string
	}{
		{"abc", 1, 5, "bc"}, {"abc", 0, 3, "abc"}, {"abc", 0, 4, "abc"}, {"abc", 0, 2, "ab"}, {"abc", 0, 0, ""}, {"abc", 1, 0, ""}, {"abc", 1, 1, "b"}, {"abc", 2, 1, "c"}, {"abc", 3, 1, ""}, {"abc", 4, 1, ""},
		{"abc", -1, 2, "ab"}, {"abc", -3, 1, "a"}, {"abc", least, 2, "ab"}, {"abc", 1, -1, ""}, {"abc", 0, least, ""}, {"abc", -1, -1, ""}, {"abc", least, least, ""},
		{"abc", most, most, ""}, {"abc", 0, most, "abc"}, {"abc", 1, most, "bc"}, {"abc", 3, most, ""}, {"abc", most, 1, ""}, {"abc", least, most, "abc"}, {"abc", most, least, ""}, {"abc", -1, most, "abc"}, {"abc", most, 0, ""},
		{"", 0, 0, ""}, {"", 0, 1, ""}, {"", 1, 1, ""}, {"", -1, most, ""}, {"", most, most, ""}, {"", least, least, ""},
		{"aéb", 1, 5, "éb"}, {"aéb", 1, 1, "é"}, {"aéb", 2, 1, "b"}, {"é€\U0001F600", 1, 1, "€"}, {"é€\U0001F600", 2, 9, "\U0001F600"},
		{"\xff\xfea", 0, 1, "\xff"}, {"\xff\xfea", 1, 1, "\xfe"}, {"\xff\xfea", 1, 2, "\xfea"}, {"a\xe2\x82b", 1, 2, "\xe2\x82"}, {"a\xe2\x82b", 2, 2, "\x82b"}, {"a\xe2\x82", 2, 1, "\x82"}, {"\xed\xa0\x80", 1, 1, "\xa0"}, {"\uFFFD\xff", 1, 1, "\xff"}, {"\uFFFD\xff", 0, 1, "\uFFFD"},
	} {
		if got := chars.Cut(c.s, c.from, c.n); got != c.want {
			t.Errorf("Cut(%q, %d, %d): %q, want %q", c.s, c.from, c.n, got, c.want)
		}
	}
}

const mixed = "aé\xff€\xe2\x82\U0001F600\uFFFD\x00z"

// P5.4: the characters of a text, each with its place.
func TestRunes(t *testing.T) {
	want := []piece{{at: 0, r: 'a'}, {at: 1, r: 'é'}, {at: 3, r: 0xFFFD}, {at: 4, r: '€'}, {at: 7, r: 0xFFFD}, {at: 8, r: 0xFFFD}, {at: 9, r: 0x1F600}, {at: 13, r: 0xFFFD}, {at: 16, r: 0}, {at: 17, r: 'z'}}
	i := 0
	for at, r := range chars.Runes(mixed) {
		if i >= len(want) || at != want[i].at || r != want[i].r {
			t.Fatalf("Runes: %d, %X as number %d", at, r, i)
		}
		i++
	}
	if i != len(want) {
		t.Errorf("Runes: %d characters", i)
	}
	for at, r := range chars.Runes("") {
		t.Errorf("Runes of nothing: %d, %X", at, r)
	}
}

// P5.4, R3: an iterator that is left at each of its characters tells no more, and is gone over from the beginning again.
func TestRunesLeft(t *testing.T) {
	all := pieces(mixed)
	seq := chars.Runes(mixed)
	for stop := range all {
		told := 0
		seq(func(at int, r rune) bool {
			if told > stop || at != all[told].at || r != all[told].r {
				t.Errorf("left at %d: %d, %X as number %d", stop, at, r, told)
			}
			told++
			return told <= stop
		})
		if told != stop+1 {
			t.Errorf("left at %d: %d characters", stop, told)
		}
	}
}

// R3: an iterator may be nested in itself.
func TestRunesNested(t *testing.T) {
	all := pieces(mixed)
	seq := chars.Runes(mixed)
	i := 0
	for at := range seq {
		k := 0
		for inner, r := range seq {
			if inner != all[k].at || r != all[k].r {
				t.Errorf("within %d: %d, %X", at, inner, r)
			}
			k++
		}
		if at != all[i].at || k != len(all) {
			t.Errorf("nested: %d as number %d, %d within", at, i, k)
		}
		i++
	}
	if i != len(all) {
		t.Errorf("nested: %d characters", i)
	}
}

// P5.4: the letters of ASCII change, all else stays.
func TestUpperLower(t *testing.T) {
	for _, c := range []struct{ s, upper, lower string }{
		{"", "", ""}, {"aé", "Aé", "aé"}, {"AZ", "AZ", "az"}, {"az", "AZ", "az"}, {"@[`{", "@[`{", "@[`{"}, {"aZ09_é", "AZ09_é", "az09_é"}, {"ÄÖÜäöüßſ\u212A", "ÄÖÜäöüßſ\u212A", "ÄÖÜäöüßſ\u212A"}, {"ıİǅ", "ıİǅ", "ıİǅ"},
		{"a\xffB", "A\xffB", "a\xffb"}, {"\xe1a\xc3", "\xe1A\xc3", "\xe1a\xc3"}, {"\xc3A", "\xc3A", "\xc3a"}, {"\x00a\uFFFDB", "\x00A\uFFFDB", "\x00a\uFFFDb"}, {"\xed\xa0\x80z", "\xed\xa0\x80Z", "\xed\xa0\x80z"}, {"ａＡ", "ａＡ", "ａＡ"},
		{"abcdefghijklmnopqrstuvwxyz", "ABCDEFGHIJKLMNOPQRSTUVWXYZ", "abcdefghijklmnopqrstuvwxyz"}, {"ABCDEFGHIJKLMNOPQRSTUVWXYZ", "ABCDEFGHIJKLMNOPQRSTUVWXYZ", "abcdefghijklmnopqrstuvwxyz"},
	} {
		if got := chars.Upper(c.s); got != c.upper {
			t.Errorf("Upper(%q): %q", c.s, got)
		}
		if got := chars.Lower(c.s); got != c.lower {
			t.Errorf("Lower(%q): %q", c.s, got)
		}
	}
}

// checkTwo asks whether a text that is cut in two is whole again.
func checkTwo(t *testing.T, s string) {
	t.Helper()
	all := chars.Count(s)
	for _, k := range append(numbersTo(all+2), math.MaxInt-1, math.MaxInt) {
		first, second := chars.Cut(s, 0, k), chars.Cut(s, k, all)
		if first+second != s || chars.Count(first)+chars.Count(second) != all || chars.Count(first) != min(k, all) {
			t.Errorf("%q in two at %d: %q, %q", s, k, first, second)
		}
	}
}

func numbersTo(n int) []int {
	all := make([]int, n+1)
	for i := range all {
		all[i] = i
	}
	return all
}

// P5.6: texts cut in two at each place, bytes that are no UTF-8 among them.
func TestCutInTwo(t *testing.T) {
	for _, s := range []string{"", "a", "é", mixed, "\xff\xfe\xfd", "\xe2\x82\xe2\x82\xac", "a\xe2", "\xf0\x9f\x98\U0001F600", strings.Repeat("é\xc3", 50)} {
		checkTwo(t, s)
	}
	texts(bytesOf("a\xe2\x82\xac\xf0\x90"), 5, func(s string) { checkTwo(t, s) })
}
