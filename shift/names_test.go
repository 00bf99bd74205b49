package shift_test

import (
	"strconv"
	"strings"
	"testing"
	"unicode"

	"gridiron/api"
	"gridiron/chars"
	"gridiron/shift"
)

func wantAlike(t *testing.T, a, b string, want bool) {
	t.Helper()
	if shift.Alike(a, b) != want || shift.Alike(b, a) != want {
		t.Errorf("Alike(%q, %q): not %v", a, b, want)
	}
}

// P15.1: A to Z and a to z alone have two cases.
func TestAlike(t *testing.T) {
	for _, x := range [][2]string{{"", ""}, {"a", "A"}, {"z", "Z"}, {"Sheet1", "sHEET1"}, {"éa", "éA"}, {"x y", "X Y"}, {"\xff", "\xff"}, {"a\xc3", "A\xc3"}, {"\U0001F600z", "\U0001F600Z"}} {
		wantAlike(t, x[0], x[1], true)
	}
	for _, x := range [][2]string{{"", "a"}, {"a", "b"}, {"a", "ab"}, {"ab", "ba"}, {"a", "a "}, {"Sheet1", "Sheet2"}, {"é", "É"}, {"é", "e\u0301"}, {"ß", "SS"}, {"ß", "\u1E9E"}, {"\u017F", "s"}, {"\u212A", "k"}, {"\u0131", "I"}, {"\u0130", "i"}, {"σ", "ς"}, {"@", "`"}, {"[", "{"}, {"\\", "|"}, {"\x00", " "}, {"\xff", "\xfe"}, {"\xff", "\xdf"}, {"\xff", "\uFFFD"}, {"\xc3\xa9", "\xc3\x89"}, {"\xe1", "\xc1"}} {
		wantAlike(t, x[0], x[1], false)
	}
	long := strings.Repeat("a", 1<<20)
	wantAlike(t, long, strings.ToUpper(long), true)
	wantAlike(t, long+"a", long+"b", false)
}

// P15.1: every two bytes, and every character beside its other cases.
func TestAlikeEach(t *testing.T) {
	for a := range 256 {
		for b := range 256 {
			x, y := "x"+string([]byte{byte(a)}), "X"+string([]byte{byte(b)})
			wantAlike(t, x, y, modelAlike(x, y))
			wantAlike(t, x, y, chars.Upper(x) == chars.Upper(y))
		}
	}
	for r := rune(0); r < 0x20000; r++ {
		for other := unicode.SimpleFold(r); other != r; other = unicode.SimpleFold(other) {
			wantAlike(t, string(r), string(other), r < 128 && other < 128)
		}
	}
}

func wantFind(t *testing.T, sheets []string, name string, want int, is bool) {
	t.Helper()
	if got, ok := shift.Find(sheets, name); got != want || ok != is {
		t.Errorf("Find(%q, %q): %d, %v, want %d, %v", sheets, name, got, ok, want, is)
	}
}

// P15.1: a name that is there once, twice, and not at all.
func TestFind(t *testing.T) {
	l := []string{"a", "B", "A", "é", "b", "", "B"}
	for name, want := range map[string]int{"a": 0, "A": 0, "b": 1, "B": 1, "é": 3, "": 5} {
		wantFind(t, l, name, want, true)
	}
	for _, name := range []string{"c", "É", "ab", "\xff", " "} {
		wantFind(t, l, name, 0, false)
	}
	for _, none := range [][]string{nil, {}} {
		wantFind(t, none, "a", 0, false)
		wantFind(t, none, "", 0, false)
	}
	wantFind(t, []string{"b", "a"}, "A", 1, true)
	wantFind(t, []string{"b"}, "", 0, false)
	wantFind(t, []string{"\xff", "\xfe"}, "\xfe", 1, true)
}

// P15.1: each of as many sheets as there may be, drawn.
func TestFindEach(t *testing.T) {
	d := draws(1)
	for range 300 {
		l := d.sheets()
		for i, name := range l {
			wantFind(t, l, d.letters(name), i, true)
			wantFind(t, l[:i], d.letters(name), 0, false)
			wantFind(t, append(l[:i:i], l...), name, modelFind(append(l[:i:i], l...), name), true)
		}
	}
}

// many are so many sheets, named s0, s1 and so on.
func many(n int) []string {
	var out []string
	for i := range n {
		out = append(out, "s"+strconv.Itoa(i))
	}
	return out
}

// lineKinds are the kinds of rows and columns.
func lineKinds() []int {
	return []int{api.SInsRows, api.SDelRows, api.SInsCols, api.SDelCols}
}
