package refs_test

import (
	"math/big"
	"strconv"
	"strings"
	"testing"

	"gridiron/api"
	"gridiron/refs"
)

// wantFault holds Parse against the place and the error of what is wrong.
func wantFault(t *testing.T, s string, at int, errno api.Errno) {
	t.Helper()
	if r, place, e := refs.Parse(s); r != (api.Ref{}) || place != at || e != errno {
		t.Errorf("Parse(%s): %s, %d, %d, want %d, %d", short(s), told(r), place, e, at, errno)
	}
	if r, place, e := modelParse(s); r != (api.Ref{}) || place != at || e != errno {
		t.Errorf("the model of Parse(%s): %s, %d, %d, want %d, %d", short(s), told(r), place, e, at, errno)
	}
}

// checkParse holds Parse against the model.
func checkParse(t *testing.T, s string) api.Errno {
	t.Helper()
	got, at, errno := refs.Parse(s)
	want, place, e := modelParse(s)
	if got != want || at != place || errno != e {
		t.Errorf("Parse(%s): %s, %d, %d, want %s, %d, %d", short(s), told(got), at, errno, told(want), place, e)
	}
	if errno != api.OK {
		return errno
	}
	if text, e := refs.Text(got); text != s || e != api.OK {
		t.Errorf("Parse(%s): Text of it is %s, %d", short(s), short(text), e)
	}
	return api.OK
}

// P11.3: texts that end too early, at each place where one can.
func TestParseTooEarly(t *testing.T) {
	for _, s := range []string{"", "$", "a", "$a", "'a b'", "$'a b'", ".", "a.", "'a b'.", ".$", ".A", ".$A", ".A$", ".$AMJ$", ".A1:", "a.A1:", "a.A1:b", "a.A1:'b c'", ".A1:.", ".A1:.$", ".A1:.B", ".A1:.B$", "a.A1:b.", "a.A1:b.$C$"} {
		wantFault(t, s, len(s), api.ErrAddr)
	}
	for _, s := range texts() {
		for end := range s {
			checkParse(t, s[:end])
		}
	}
}

// P11.3: a quote that is not closed ends too early, whatever stands behind it.
func TestParseOpenQuote(t *testing.T) {
	for _, s := range []string{"'", "$'", "'a", "'a b", "'a b.A1", "$'x y.$A$1:.B2", "'[", "'\xff", "'\x00.A1", "'" + strings.Repeat("a", 99), "a.A1:'", "a.A1:'b.A1", ".A1:'", ".A1:'b c", ".A1:'[.A1"} {
		wantFault(t, s, len(s), api.ErrAddr)
	}
	// behind a name that is one, a quote is a byte that can't be so
	for s, at := range map[string]int{"'a b'c'.A1": 5, "'a b''.A1": 5, "'a b''c'.A1": 5, "a'.A1": 1, "a'b'.A1": 1, ".A1'": 3, ".'A1": 1, ".A'1": 2, "a.A1:b'.A1": 6} {
		wantFault(t, s, at, api.ErrAddr)
	}
}

// P11.3: names that are none, quoted and not, are told where they begin.
func TestParseNoName(t *testing.T) {
	long := strings.Repeat("a", api.MaxName+1)
	names := []string{
		"'ab'", "'a'", "'_'", "'Sheet1'", "'A1'", "'" + strings.Repeat("Z", api.MaxName) + "'", // Quote would not quote these
		"''", "'a[b'", "']'", "'*'", "'?'", "':'", "'/'", "'\\'", "'a\tb'", "'\n'", "'\r'", "'\x00'", "'\x1F'", "'\xFF'", "'a\xC3'", "'\uFFFE'", "'\xED\xA0\x80'",
		"'" + long + "'", "'" + strings.Repeat(" ", api.MaxName+1) + "'", "'" + strings.Repeat("é", 33) + "'",
		long, strings.Repeat("_", 999), long + "1", "1", "0", "9a", "1_", "007", "1" + long,
	}
	for _, name := range names {
		for _, behind := range []string{"", ".A1", ".", ":", "$", " ", ".A1:.B2", ".A0", "'"} {
			wantFault(t, name+behind, 0, api.ErrSheet)
			wantFault(t, "$"+name+behind, 1, api.ErrSheet)
			wantFault(t, "a.A1:"+name+behind, 5, api.ErrSheet)
			wantFault(t, "'a b'.$A$1:"+name+behind, 11, api.ErrSheet)
			wantFault(t, ".A1:"+name+behind, 4, api.ErrSheet)
		}
	}
}

// P11.3: a sheet's name behind the colon, where none stands ahead of the first point.
func TestParseToAlone(t *testing.T) {
	for _, name := range []string{"a", "b_1", "B2", "B", "_", "'x y'", "'1'", "'é'", "'.'", strings.Repeat("a", api.MaxName), "'" + strings.Repeat("1", api.MaxName) + "'"} {
		for _, behind := range []string{"", ".B2", ".", ".B0", " ", "'", "$"} {
			wantFault(t, ".A1:"+name+behind, 4, api.ErrAddr)
			wantFault(t, ".$AMJ$1048576:"+name+behind, 14, api.ErrAddr)
		}
		// told ahead of it
		wantFault(t, ".A0:"+name+".B2", 2, api.ErrAddr)
	}
	wantFault(t, ".A1:$a.B2", 4, api.ErrAddr)
	wantFault(t, "a.A1:$b.B2", 5, api.ErrAddr)
}

// P11.3: columns and rows at the limits and beyond, told where they begin.
func TestParseBeyond(t *testing.T) {
	for _, ahead := range []string{".", "a.", "$'x y'.", ".A1:.", "a.A1:b."} {
		for _, sign := range []string{"", "$"} {
			at := len(ahead + sign)
			for _, column := range []string{"AMK", "AMZ", "ANA", "ZZZ", "AAAA", strings.Repeat("A", 40), modelColumn(new(big.Int).Lsh(big.NewInt(1), 64))} {
				for _, behind := range []string{"", "1", "$1", "0", "a", ":", "1:.A1"} {
					wantFault(t, ahead+sign+column+behind, at, api.ErrAddr)
				}
			}
			for _, row := range []string{"0", "00", "01", "007", "00001048576", "1048577", "1048580", "1050000", "2000000", "9999999", "10485760", "4294967297", "18446744073709551617", "9223372036854775808", "1" + strings.Repeat("0", 400), strings.Repeat("0", 400) + "1"} {
				for _, behind := range []string{"", "x", ":.A1", "$", "."} {
					wantFault(t, ahead+"B"+sign+row+behind, len(ahead)+1+len(sign), api.ErrAddr)
				}
			}
			for _, good := range []string{"AMJ1", "A1048576", "AMJ1048576", "A1", "ZZ999999"} {
				if checkParse(t, ahead+sign+good) != api.OK {
					t.Errorf("Parse(%s) is none", ahead+sign+good)
				}
			}
		}
	}
}

// P11.3: rows that would be small ones, if a number of 32 or 64 bits held them.
func TestParseRowsRoundAbout(t *testing.T) {
	for _, bits := range []uint{21, 24, 31, 32, 53, 63, 64, 65, 128} {
		for k := int64(-3); k <= 3; k++ {
			n := new(big.Int).Lsh(big.NewInt(1), bits)
			wantFault(t, ".A"+n.Add(n, big.NewInt(k)).String(), 2, api.ErrAddr)
		}
	}
	for n := 1048570; n < 1048700; n++ {
		s := ".A" + strconv.Itoa(n)
		if errno := checkParse(t, s); (errno == api.OK) != (n <= api.MaxRows) {
			t.Errorf("Parse(%s): %d", s, errno)
		}
	}
	wantFault(t, ".A"+strings.Repeat("9", 1<<20), 2, api.ErrAddr)
}

// P11.3: bytes that can't stand where they stand.
func TestParseBytes(t *testing.T) {
	for s, at := range map[string]int{
		"$.A1": 1, "$$a.A1": 1, "$:": 1, "$ a.A1": 1, ":": 0, " .A1": 0, ". A1": 1, ".A 1": 2, ".A1 ": 3, "A1": 2, "A1:B2": 2, "$A$1": 2, "[.A1]": 0, ".A1]": 3,
		"..A1": 1, ".1": 1, ".$1": 2, ".$$A1": 2, ".A$$1": 3, ".A-1": 2, ".A+1": 2, ".a1": 1, ".Aa1": 2, ".A$B1": 3, ".A1$": 3, ".A1B": 3, ".A1a": 3, ".A1.": 3, ".A1_": 3,
		".A1::.B2": 4, ".A1:.B2:.C3": 7, ".A1:.B2 ": 7, ".A1.B2": 3, ".A1:..B2": 5, "a.A1:b.B2:c.C3": 9, "a.A1:b:": 6, "a.A1:b c.B2": 6,
		"x y.A1": 1, "a-b.A1": 1, "é.A1": 0, "aé.A1": 1, "a$.A1": 1, "a\x00.A1": 1, "a..A1": 2, "'x y'.": 6, "'x y'A1": 5, "'x y' .A1": 5, ".Ä1": 1, ".A\u0661": 2, ".A1\n": 3, "\xff": 0, "#REF!": 0, ".#REF!": 1,
	} {
		wantFault(t, s, at, api.ErrAddr)
	}
}

// P11.3: the chapter's examples.
func TestParseExamples(t *testing.T) {
	wantFault(t, ".A0", 2, api.ErrAddr)
	wantFault(t, "'ab'.A1", 0, api.ErrSheet)
	r, at, errno := refs.Parse("Sheet1.A1:Sheet3.B2")
	if want := (api.Ref{Sheet: "Sheet1", To: "Sheet3", Area: true, B: api.Corner{Row: 1, Col: 1}}); r != want || at != 0 || errno != api.OK {
		t.Errorf("%s, %d, %d", told(r), at, errno)
	}
}

// P11.3: each text with every one byte left out, put in and changed.
func TestParseSpoiled(t *testing.T) {
	const likely = "AMZaz019_$'.: [\x00\x80\xC3"
	var all [256]byte
	for b := range all {
		all[b] = byte(b)
	}
	seen := map[api.Errno]int{}
	for i, s := range texts() {
		signs := likely
		if i%8 == 0 {
			signs = string(all[:])
		}
		for at := range len(s) + 1 {
			end := min(at+1, len(s))
			seen[checkParse(t, s[:at]+s[end:])]++
			for k := range len(signs) {
				seen[checkParse(t, s[:at]+signs[k:k+1]+s[at:])]++
				seen[checkParse(t, s[:at]+signs[k:k+1]+s[end:])]++
			}
		}
	}
	for _, errno := range []api.Errno{api.OK, api.ErrAddr, api.ErrSheet} {
		if seen[errno] < 1000 {
			t.Errorf("%d only %d times", errno, seen[errno])
		}
	}
}

// P11.3: all texts of up to six signs of some.
func TestParseAllShort(t *testing.T) {
	const signs = "A1a$'.: "
	all := []string{""}
	for range 6 {
		var longer []string
		for _, s := range all {
			for k := range len(signs) {
				longer = append(longer, s+signs[k:k+1])
			}
		}
		for _, s := range longer {
			checkParse(t, s)
		}
		all = longer
	}
}

// goesOn tells whether a text becomes a reference's by some end of those that a text may lack.
func goesOn(s string) bool {
	for _, end := range []string{"", "1", "A1", ".A1", "a.A1", "'.A1", " '.A1"} {
		if _, _, errno := refs.Parse(s + end); errno == api.OK {
			return true
		}
	}
	return false
}

// stretch is how many bytes from the beginning of s on are one name, column or row, or one sign.
func stretch(s string) int {
	if n := len(s) - len(strings.TrimLeft(s, words)); n > 0 {
		return n
	}
	if s[0] == '\'' {
		return strings.IndexByte(s[1:], '\'') + 2
	}
	return 1
}

// P11.3: the place is that of the first thing that can't be so: what stands ahead of it can go on to a reference, what stands up to its end can't.
func TestParseFirst(t *testing.T) {
	d := draws(11)
	for range 60000 {
		s, _ := modelText(d.ref())
		for range 1 + d.below(3) {
			s = d.spoiled(s)
		}
		_, at, errno := refs.Parse(s)
		if errno == api.OK || at == len(s) && strings.Count(s, "'")%2 == 1 {
			continue
		}
		if !goesOn(s[:at]) {
			t.Errorf("Parse(%s): %d, but something ahead of it can't be so", short(s), at)
		}
		if at < len(s) && goesOn(s[:at+stretch(s[at:])]) {
			t.Errorf("Parse(%s): %d, but that can be so", short(s), at)
		}
	}
}
