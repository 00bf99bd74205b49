package refs_test

import (
	"math"
	"math/big"
	"strings"
	"testing"

	"gridiron/api"
	"gridiron/refs"
)

func wantColumn(t *testing.T, n int, want string, errno api.Errno) {
	t.Helper()
	if got, e := refs.Column(n); got != want || e != errno {
		t.Errorf("Column(%d): %q, %d, want %q, %d", n, got, e, want, errno)
	}
}

func wantParseColumn(t *testing.T, s string, want int, errno api.Errno) {
	t.Helper()
	if got, e := refs.ParseColumn(s); got != want || e != errno {
		t.Errorf("ParseColumn(%s): %d, %d, want %d, %d", short(s), got, e, want, errno)
	}
}

// P11.1: every column, its letters counted on one by one, and back.
func TestColumns(t *testing.T) {
	next := []byte("A")
	for n := range api.MaxCols {
		wantColumn(t, n, string(next), api.OK)
		wantParseColumn(t, string(next), n, api.OK)
		at := len(next) - 1
		for ; at >= 0 && next[at] == 'Z'; at-- {
			next[at] = 'A'
		}
		if at < 0 {
			next = append([]byte("A"), next...)
		} else {
			next[at]++
		}
	}
	for s, n := range map[string]int{"A": 0, "Z": 25, "AA": 26, "AZ": 51, "BA": 52, "ZZ": 701, "AAA": 702, "AMJ": 1023} {
		wantColumn(t, n, s, api.OK)
		wantParseColumn(t, s, n, api.OK)
	}
}

// P11.1, R2: what is no column.
func TestNoColumn(t *testing.T) {
	for _, n := range []int{-1, -2, -26, -27, api.MaxCols, api.MaxCols + 1, 1 << 20, 1 << 32, 1<<32 + 1, math.MaxInt, math.MaxInt - 1, math.MinInt, math.MinInt + 1} {
		wantColumn(t, n, "", api.ErrAddr)
	}
}

// P11.1: all texts of up to three bytes of some, and each byte alone and beside letters.
func TestParseColumnEach(t *testing.T) {
	const some = "ABCJKMLYZ@[`az09$ .é\x00\xff"
	check := func(s string) {
		t.Helper()
		if n, ok := modelParseColumn(s); ok {
			wantParseColumn(t, s, n, api.OK)
		} else {
			wantParseColumn(t, s, 0, api.ErrAddr)
		}
	}
	check("")
	for b := range 256 {
		one := string([]byte{byte(b)})
		for _, s := range []string{one, "A" + one, one + "A", "A" + one + "A", "AM" + one, one + "MJ", "A" + one + "J", "AMJ" + one, one + "AMJ"} {
			check(s)
		}
	}
	for i := range some {
		for j := range some {
			for k := range some {
				check(some[i:i+1] + some[j:j+1] + some[k:k+1])
			}
		}
	}
	for a := 'A'; a <= 'Z'; a++ {
		for b := 'A'; b <= 'Z'; b++ {
			check(string([]rune{a, b}))
			for c := 'A'; c <= 'Z'; c++ {
				check(string([]rune{a, b, c}))
			}
		}
	}
}

// P11.1, R6: letters beyond the last column, so many among them that a number would leave an int and come back as a small one.
func TestParseColumnBeyond(t *testing.T) {
	for _, s := range []string{"AMK", "AMZ", "ANA", "AZZ", "BAA", "ZZZ", "AAAA", "AAMJ", "ZZZZ", "FXSHRXW", "FXSHRXX"} {
		wantParseColumn(t, s, 0, api.ErrAddr)
	}
	for n := 4; n < 200; n++ {
		for _, letter := range []string{"A", "B", "M", "Z"} {
			wantParseColumn(t, strings.Repeat(letter, n), 0, api.ErrAddr)
		}
	}
	wantParseColumn(t, strings.Repeat("A", 1<<20), 0, api.ErrAddr)
	for _, bits := range []uint{11, 16, 31, 32, 33, 53, 63, 64, 65, 96, 128, 640} {
		for _, times := range []int64{1, 2, 3, 5, 27} {
			round := new(big.Int).Lsh(big.NewInt(times), bits)
			for k := int64(-2); k <= api.MaxCols+1; k++ {
				wantParseColumn(t, modelColumn(new(big.Int).Add(round, big.NewInt(k))), 0, api.ErrAddr)
			}
		}
	}
}

func wantSheetName(t *testing.T, s string, want bool) {
	t.Helper()
	if got := refs.SheetName(s); got != want {
		t.Errorf("SheetName(%s): %v", short(s), got)
	}
	quoted, errno := refs.Quote(s)
	if model, e := modelQuote(s); quoted != model || errno != e || want != (errno == api.OK) {
		t.Errorf("Quote(%s): %q, %d, want %q, %d", short(s), quoted, errno, model, e)
	}
}

// P11.1: how long a sheet's name may be, in bytes.
func TestSheetNameLength(t *testing.T) {
	wantSheetName(t, "", false)
	for n := 1; n <= 200; n++ {
		for _, one := range []string{"a", "Z", "_", "0", " ", "é", "€", "\U0001F600"} {
			s := strings.Repeat(one, n)
			wantSheetName(t, s, len(s) <= api.MaxName)
			wantSheetName(t, "a"+s, 1+len(s) <= api.MaxName)
		}
	}
	wantSheetName(t, strings.Repeat("a", api.MaxName), true)
	wantSheetName(t, strings.Repeat("a", api.MaxName+1), false)
	wantSheetName(t, strings.Repeat("a", api.MaxName-1)+"é", false)
	wantSheetName(t, strings.Repeat("a", api.MaxName-2)+"é", true)
	wantSheetName(t, strings.Repeat("a", 1<<20), false)
}

// P11.1: each character there is, at the beginning, in the middle, at the end, and alone.
func TestSheetNameCharacters(t *testing.T) {
	const barred = `[]*?:/\'`
	for r := rune(0); r <= 0x10FFFF; r++ {
		if 0xD800 <= r && r <= 0xDFFF {
			continue
		}
		one := string(r)
		want := r >= 0x20 && r != 0xFFFE && r != 0xFFFF && !strings.ContainsRune(barred, r)
		if got := refs.SheetName("a" + one + "b"); got != want {
			t.Fatalf("SheetName(a %X b): %v", r, got)
		}
		if r < 0x3000 || r > 0xD700 && r < 0x10100 || r > 0x10FF00 {
			wantSheetName(t, one, want)
			wantSheetName(t, one+"b", want)
			wantSheetName(t, "a"+one, want)
		}
	}
	for _, r := range barred {
		for _, s := range []string{"", "Sheet", "x y", "é"} {
			for at := range s + "." {
				wantSheetName(t, s[:at]+string(r)+s[at:], false)
			}
		}
	}
}

// P11.1: bytes that are no valid UTF-8.
func TestSheetNameBytes(t *testing.T) {
	for _, bad := range []string{"\x80", "\xBF", "\xC0\x80", "\xC1\xBF", "\xC3", "\xE2\x82", "\xED\xA0\x80", "\xED\xBF\xBF", "\xF0\x9F\x98", "\xF4\x90\x80\x80", "\xF5\x80\x80\x80", "\xFE", "\xFF", "\xE0\x80\x80", "\xF0\x80\x80\x80"} {
		for _, s := range []string{bad, "a" + bad, bad + "a", "a" + bad + "b", "é" + bad, "\uFFFD" + bad, bad + "\uFFFD"} {
			wantSheetName(t, s, false)
		}
	}
	for a := range 256 {
		for b := range 256 {
			s := string([]byte{byte(a), byte(b)})
			wantSheetName(t, s, modelSheetName(s))
		}
	}
	wantSheetName(t, "\uFFFD", true)
	wantSheetName(t, "\x7F", true)
}

// P11.1: which names stand as they are.
func TestQuote(t *testing.T) {
	for s, want := range map[string]string{
		"a": "a", "Z": "Z", "_": "_", "Sheet1": "Sheet1", "_1": "_1", "a_9": "a_9", "AMJ1": "AMJ1", "azAZ09_": "azAZ09_", "__": "__", "TRUE": "TRUE",
		"1": "'1'", "0a": "'0a'", "9_": "'9_'", "x y": "'x y'", " ": "' '", " a": "' a'", "a ": "'a '", ".": "'.'", "a.b": "'a.b'", "$": "'$'", "$a": "'$a'", "a$": "'a$'",
		"é": "'é'", "aé": "'aé'", "Ä1": "'Ä1'", "a-b": "'a-b'", "@": "'@'", "`": "'`'", "{": "'{'", "\u0660": "'\u0660'", "a\u0660": "'a\u0660'", "ＡＢ": "'ＡＢ'", "\"": "'\"'", "a\U0001F600": "'a\U0001F600'", "\u017F": "'\u017F'", "\u212A": "'\u212A'",
	} {
		if got, errno := refs.Quote(s); got != want || errno != api.OK {
			t.Errorf("Quote(%q): %q, %d, want %q", s, got, errno, want)
		}
		wantSheetName(t, s, true)
	}
	for _, s := range []string{"", "'a'", "'", "a'b", "a:b", "[", "a\tb", "a\nb", "a\rb", "\x00", "\x1F", "\xFF", strings.Repeat("a", 65), strings.Repeat(" ", 65)} {
		if got, errno := refs.Quote(s); got != "" || errno != api.ErrSheet {
			t.Errorf("Quote(%q): %q, %d", s, got, errno)
		}
	}
	for _, s := range []string{strings.Repeat("a", 64), strings.Repeat("9", 64)} {
		wantSheetName(t, s, true)
	}
}
