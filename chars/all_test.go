package chars_test

import (
	"math"
	"strconv"
	"strings"
	"testing"

	"gridiron/chars"
)

// draws is a row of numbers that look drawn, the same in each run.
type draws uint64

func (d *draws) below(n int) int {
	*d = *d*6364136223846793005 + 1442695040888963407
	return int(uint64(*d)>>33) % n
}

// texts goes through all texts of at most so many of the parts.
func texts(parts []string, most int, visit func(string)) {
	var grow func(s string, left int)
	grow = func(s string, left int) {
		visit(s)
		if left == 0 {
			return
		}
		for _, p := range parts {
			grow(s+p, left-1)
		}
	}
	grow("", most)
}

func single(bytes string) []string {
	return strings.Split(bytes, "")
}

// bytesOf are the bytes of a text, one by one, whatever they are.
func bytesOf(s string) []string {
	var all []string
	for i := range len(s) {
		all = append(all, s[i:i+1])
	}
	return all
}

// check holds each call against the model.
func check(t *testing.T, s string) {
	t.Helper()
	checkNames(t, s)
	checkReferences(t, s)
	checkLetters(t, s)
	checkCut(t, s)
}

func checkNames(t *testing.T, s string) {
	t.Helper()
	at, ok := chars.Valid(s)
	if wantAt, want := modelValid(s); at != wantAt || ok != want {
		t.Errorf("Valid(%q): %d, %v, want %d, %v", s, at, ok, wantAt, want)
	}
	if got, want := chars.Name(s), modelName(s); got != want {
		t.Errorf("Name(%q): %v", s, got)
	}
	prefix, own, ok := chars.Split(s)
	if wantPrefix, wantOwn, want := modelSplit(s); prefix != wantPrefix || own != wantOwn || ok != want {
		t.Errorf("Split(%q): %q, %q, %v, want %q, %q, %v", s, prefix, own, ok, wantPrefix, wantOwn, want)
	}
}

func checkReferences(t *testing.T, s string) {
	t.Helper()
	for _, attr := range []bool{false, true} {
		got, errno := chars.Escape(s, attr)
		if want, wantErrno := modelEscape(s, attr); got != want || errno != wantErrno {
			t.Errorf("Escape(%q, %v): %q, %d, want %q, %d", s, attr, got, errno, want, wantErrno)
		}
	}
	got, at, errno := chars.Unescape(s)
	if want, wantAt, wantErrno := modelUnescape(s); got != want || at != wantAt || errno != wantErrno {
		t.Errorf("Unescape(%q): %q, %d, %d, want %q, %d, %d", s, got, at, errno, want, wantAt, wantErrno)
	}
}

func checkLetters(t *testing.T, s string) {
	t.Helper()
	const small, large = "abcdefghijklmnopqrstuvwxyz", "ABCDEFGHIJKLMNOPQRSTUVWXYZ"
	if got, want := chars.Lines(s), modelLines(s); got != want {
		t.Errorf("Lines(%q): %q, want %q", s, got, want)
	}
	if got, want := chars.Upper(s), modelCase(s, small, large); got != want {
		t.Errorf("Upper(%q): %q, want %q", s, got, want)
	}
	if got, want := chars.Lower(s), modelCase(s, large, small); got != want {
		t.Errorf("Lower(%q): %q, want %q", s, got, want)
	}
}

func checkCut(t *testing.T, s string) {
	t.Helper()
	all := pieces(s)
	if got := chars.Count(s); got != len(all) {
		t.Errorf("Count(%q): %d, want %d", s, got, len(all))
	}
	i := 0
	for at, r := range chars.Runes(s) {
		if i >= len(all) || at != all[i].at || r != all[i].r {
			t.Errorf("Runes(%q): %d, %X as number %d", s, at, r, i)
		}
		i++
	}
	if i != len(all) {
		t.Errorf("Runes(%q): %d characters, want %d", s, i, len(all))
	}
	numbers := []int{math.MinInt, -1, 0, 1, 2, len(all) - 1, len(all), len(all) + 1, math.MaxInt}
	for _, from := range numbers {
		for _, n := range numbers {
			if got, want := chars.Cut(s, from, n), modelCut(s, from, n); got != want {
				t.Errorf("Cut(%q, %d, %d): %q, want %q", s, from, n, got, want)
			}
		}
	}
}

// P5.2, P5.3, P5.4, R1: all texts of two bytes, whatever these are.
func TestAllPairsOfBytes(t *testing.T) {
	for i := range 1 << 16 {
		check(t, string([]byte{byte(i >> 8), byte(i)}))
	}
}

// P5.2, P5.3, P5.4, R1: all short texts of the bytes at which the shapes of UTF-8 begin and end.
func TestAllShapes(t *testing.T) {
	lead := bytesOf("\x7f\x80\xc0\xc1\xc2\xdf\xe0\xe1\xec\xed\xee\xef\xf0\xf1\xf3\xf4\xf5\xff")
	more := bytesOf("a\x80\x8f\x90\x9f\xa0\xbd\xbe\xbf\xc2\xef")
	for _, first := range lead {
		texts(more, 3, func(s string) {
			checkNames(t, first+s)
			checkNames(t, "a"+first+s+"b")
			checkCut(t, first+s)
			checkLetters(t, "Z"+first+s+"z")
		})
	}
}

// P5.2, P5.3, P5.4, R1: all short texts of the signs that mean something.
func TestAllSigns(t *testing.T) {
	texts(single("\x00\t\n\r \"&'<>;#:-_09AZazé\uFFFD\U00010000"), 3, func(s string) { check(t, s) })
	texts(bytesOf("\r\na\xff"), 6, func(s string) { checkLetters(t, s) })
	texts(single("a:-1é·"), 6, func(s string) { checkNames(t, s) })
}

// P5.3, R2: all short texts of what references are made of.
func TestAllReferences(t *testing.T) {
	parts := []string{"&", "#", "x", "X", ";", "0", "1", "9", "a", "F", "g", "amp", "lt", "gt", "quot", "apos", "110000", "D800", "FFFE", "é", "\x00", "\xc3"}
	texts(parts, 3, func(s string) {
		checkReferences(t, s)
		checkReferences(t, "&"+s)
		checkReferences(t, "b&#"+s+";")
		checkReferences(t, "é&#x"+s+";&lt;")
	})
}

// P5.3: each number in both ways, its ends and those just outside among them.
func TestAllNumbers(t *testing.T) {
	for _, e := range ends(xmlChars) {
		for _, r := range []rune{e[0] - 1, e[0], e[0] + 1, e[1] - 1, e[1], e[1] + 1} {
			checkNumber(t, r)
		}
	}
	for r := rune(0); r < 0x111000; r += 61 {
		checkNumber(t, r)
	}
}

// P5.3: each sign in the place of a digit, alone, ahead of one and behind one.
func TestAllDigits(t *testing.T) {
	for r := rune(0); r < 0x3000; r++ {
		c := string(r)
		for _, s := range []string{c, "4" + c, c + "4", "6" + c + "1"} {
			checkReferences(t, "&#"+s+";")
			checkReferences(t, "&#x"+s+";")
		}
	}
}

func checkNumber(t *testing.T, r rune) {
	t.Helper()
	n := strconv.FormatInt(int64(r), 10)
	x := strconv.FormatInt(int64(r), 16)
	for _, s := range []string{"&#" + n + ";", "&#x" + x + ";", "&#x" + strings.ToUpper(x) + ";", "a&#000" + n + ";b", "&amp;&#x00" + x + ";"} {
		checkReferences(t, s)
	}
}

// P5.2, P5.3, P5.4, P5.5, P5.6, R1: long texts of many parts, as drawn; half of them with nothing wrong, so that all of the text is looked at.
func TestManyDrawn(t *testing.T) {
	right := append(single("\t\n\r\"'<>;#x:-_09AZazé·€\uFFFD\U0001F600\U0010FFFF"), "&amp;", "&lt;", "&gt;", "&quot;", "&apos;", "&#65;", "&#xe9;", "&#13;")
	wrong := []string{"&", "&#x;", "\x00", "\uFFFE", "\x80", "\xff", "\xe2\x82", "\xed\xa0\x80", "\xc0\x80", "\xf4\x90\x80\x80"}
	parts := append(right, wrong...)
	for seed := range 4000 {
		d := draws(seed)
		choice := len(right)
		if seed%2 > 0 {
			choice += d.below(len(wrong) + 1)
		}
		var s strings.Builder
		for range d.below(24) {
			s.WriteString(parts[d.below(choice)])
		}
		check(t, s.String())
		checkBack(t, s.String())
		checkTwo(t, s.String())
	}
}
