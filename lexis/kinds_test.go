package lexis_test

import (
	"math"
	"strings"
	"testing"

	"gridiron/api"
	"gridiron/lexis"
)

// P12.1: numbers with each of their parts there and not.
func TestNumbers(t *testing.T) {
	for s, x := range map[string]float64{
		"0": 0, "7": 7, "007": 7, "10": 10, "1234567890": 1234567890,
		"0.0": 0, "0.5": 0.5, "1.5": 1.5, "00.50": 0.5, "12.034": 12.034,
		"1e3": 1000, "1E3": 1000, "1e+3": 1000, "1E+3": 1000, "1e-3": 0.001, "1E-3": 0.001, "2e0": 2, "2e00": 2, "2E-0": 2, "1e003": 1000,
		"1.5e3": 1500, "1.5E3": 1500, "1.5e+3": 1500, "1.5e-3": 0.0015, "0.0e9": 0, "0e999": 0, "0E-999": 0,
		"1e-400": 0, "4.9e-324": math.SmallestNonzeroFloat64, "1.7976931348623157E308": math.MaxFloat64, "9007199254740993": 9007199254740992,
		"0.1": 0.1, "123456789012345678901234567890": 123456789012345678901234567890,
	} {
		want(t, s, num(0, x))
		want(t, " "+s+" ", num(1, x))
		want(t, s+";"+s, num(0, x), sign(len(s), ";"), num(len(s)+1, x))
		want(t, "-"+s, sign(0, "-"), num(1, x))
		want(t, s+"+", num(0, x), sign(len(s), "+"))
		want(t, s+"-"+s, num(0, x), sign(len(s), "-"), num(len(s)+1, x))
		want(t, s+`"a"`, num(0, x), text(len(s), "a"))
		want(t, s+"[.A1]", num(0, x), ref(len(s), ".A1"))
		want(t, s+"#N/A", num(0, x), failure(len(s), api.ENA))
	}
	wantFault(t, ".5", 0, api.ErrLexByte)
	want(t, "e5", name(0, "e5"))
	want(t, "+1", sign(0, "+"), num(1, 1))
}

// P12.1: a point, an E or a sign that no digit follows, and what may not stand directly behind a number.
func TestNumbersWrong(t *testing.T) {
	for _, whole := range []string{"0", "1", "12", "00"} {
		for _, part := range []string{"", ".5", ".05"} {
			for _, behind := range []string{".", "..", "..5", ".e5", ".E+5", ". 5", ".+5", ".x", "._", "e", "E", "e+", "e-", "E+", "e e5", "e+ 5", "e+-5", "e++5", "e.5", "e+.5", "ee5", "eE", "e5.", "e5.5", "e5e5", "e5e", "e5E+5", "e5x", "e5_", "e+5.", "e-5z", "e+x", "x", "X", "z", "Z", "A", "a", "_", "_1", "d5", "f", "x1"} {
				wantFault(t, whole+part+behind, 0, api.ErrLexNum)
				wantFault(t, "a; "+whole+part+behind+" 1", 3, api.ErrLexNum)
			}
			if part != "" {
				wantFault(t, whole+part+".5", 0, api.ErrLexNum)
				wantFault(t, whole+part+part, 0, api.ErrLexNum)
			}
		}
	}
	// every byte directly behind a number of each form
	for _, s := range []string{"1", "1.5", "1e5", "1e+5", "1.5E-5"} {
		for b := range 256 {
			c := string([]byte{byte(b)})
			barred := strings.Contains(capitals+smalls+"_.", c)
			if barred {
				wantFault(t, s+c, 0, api.ErrLexNum)
			}
			if _, at, errno := lexis.Tokens(s + c); !barred && at == 0 && errno != api.OK {
				t.Errorf("Tokens(%q) is refused at its number: %d", s+c, errno)
			}
			check(t, s+c)
		}
	}
	// letters are A to Z and a to z alone: another character begins no token
	wantFault(t, "1é", 1, api.ErrLexByte)
	wantFault(t, "1.5À", 3, api.ErrLexByte)
}

// P12.1: numbers that are no float any more, and those of very many digits that are one.
func TestNumbersFar(t *testing.T) {
	noughts := strings.Repeat("0", 4000)
	for _, s := range []string{"1E999", "1e309", "1.8e308", "1.7976931348623159E308", "9e99999999999999999999", "1E+309", strings.Repeat("9", 309), "1" + strings.Repeat("0", 309), strings.Repeat("1", api.MaxFormula), "1" + noughts, "0." + noughts + "1e9999", "1e" + noughts + "999"} {
		wantFault(t, s, 0, api.ErrLexNum)
		if len(s) < api.MaxFormula-4 {
			wantFault(t, "1 +"+s, 3, api.ErrLexNum)
		}
	}
	want(t, "1"+strings.Repeat("0", 308), num(0, 1e308))
	want(t, noughts+"1", num(0, 1))
	want(t, "1."+noughts, num(0, 1))
	want(t, "0."+noughts+"1", num(0, 0))
	want(t, "0."+noughts+"1e4001", num(0, 1))
	want(t, "1"+noughts+"e-4000", num(0, 1))
	want(t, "1e"+noughts+"2", num(0, 100))
	want(t, "1e-"+strings.Repeat("9", 4000), num(0, 0))
	want(t, strings.Repeat("0", api.MaxFormula), num(0, 0))
	want(t, "0."+strings.Repeat("3", api.MaxFormula-2), num(0, 1.0/3))
	// what number would not take, a formula does not, either
	for _, n := range []int{api.MaxText, api.MaxText + 1} {
		wantFault(t, strings.Repeat("0", n), api.MaxFormula, api.ErrLong)
	}
}

// P12.1: rows of quotes at the beginning, in the middle and at the end of a text.
func TestQuotes(t *testing.T) {
	for _, said := range []string{"", "a", `"`, `""`, `"""`, `""""`, `"a`, `""a`, `"""a`, `a"`, `a""`, `a"""`, `a"b`, `a""b`, `a"""b`, `"a"b"`, `""a""b""`, " ", "'", "[.A1]", "#N/A", "1", "=", "a\tb\nc\rd", "é€\U0001F600\uFFFD\U0010FFFF", "\x7f"} {
		quoted := `"` + strings.ReplaceAll(said, `"`, `""`) + `"`
		want(t, quoted, text(0, said))
		want(t, "a "+quoted+"&"+quoted+" ", name(0, "a"), text(2, said), sign(2+len(quoted), "&"), text(3+len(quoted), said))
		for end := 1; end < len(quoted); end++ {
			check(t, quoted[:end])
		}
		// one quote more, and the text goes on
		wantFault(t, quoted+`"`, 0, api.ErrLexText)
		wantFault(t, "1;"+quoted+`"x`, 2, api.ErrLexText)
		want(t, quoted+` "b"`, text(0, said), text(len(quoted)+1, "b"))
		want(t, quoted+`"b"`, text(0, said+`"b`))
		want(t, quoted+`x`, text(0, said), name(len(quoted), "x"))
	}
	for n := range 40 {
		row := strings.Repeat(`"`, n)
		switch {
		case n == 0:
			want(t, row)
		case n%2 == 0:
			want(t, row, text(0, row[:n/2-1]))
			want(t, row+"a", text(0, row[:n/2-1]), name(n, "a"))
			wantFault(t, row+`a"`, n+1, api.ErrLexText)
		default:
			wantFault(t, row, 0, api.ErrLexText)
			want(t, row+`a"`, text(0, row[:n/2]+"a"))
		}
		check(t, "a"+row)
		check(t, row+"a")
		check(t, row+" "+row)
	}
}

// P12.1: texts that do not end, that say what is no UTF-8, and what is none of XML's characters.
func TestTextsWrong(t *testing.T) {
	for _, s := range []string{`"`, `"a`, `"""`, `"a""`, `"a""b`, `"""a""`, `"a;1 [.A1]`, "\"\n", `"é`} {
		wantFault(t, s, 0, api.ErrLexText)
		wantFault(t, "1+"+s, 2, api.ErrLexText)
		want(t, s+` "`, text(0, strings.ReplaceAll(s[1:], `""`, `"`)+" "))
	}
	for _, bad := range []string{"\x00", "\x01", "\x08", "\x0b", "\x0c", "\x0e", "\x1f", "\x80", "\xc3", "\xff", "\xc0\x80", "\xed\xa0\x80", "\xf4\x90\x80\x80", "\xe2\x82", "\ufffe", "\uffff"} {
		for _, said := range []string{bad, "a" + bad, bad + "a", "é" + bad + `""` + "é", `""` + bad} {
			wantFault(t, `"`+said+`"`, 0, api.ErrLexText)
			wantFault(t, `x "`+said+`" ?`, 2, api.ErrLexText)
			wantFault(t, `"`+said, 0, api.ErrLexText)
		}
	}
	// each byte in a text by itself
	for b := range 256 {
		c := string([]byte{byte(b)})
		if c == `"` || b < 32 && !strings.Contains(blanks, c) || b > 127 {
			wantFault(t, `"`+c+`"`, 0, api.ErrLexText)
		} else {
			want(t, `"`+c+`"`, text(0, c))
		}
	}
}

// P12.1: references, with quoted names that have signs of other tokens in them.
func TestReferences(t *testing.T) {
	for _, inner := range []string{".A1", ".$AMJ$1048576", ".A1:.B2", "a.A1", "$a.A1:b.$B$2", "'x y'.A1", "$'x y'.A1:'z;'.B2", "'#NUM!'.A1", "'a\"b'.A1:'\"'.A1", "'1'.A1", "'('.A1", "' '.A1", "'.'.A1", "'é'.A1", "'" + strings.Repeat("1", api.MaxName) + "'.A1"} {
		s := "[" + inner + "]"
		want(t, s, ref(0, inner))
		want(t, " "+s+s, ref(1, inner), ref(1+len(s), inner))
		want(t, "a"+s+"1", name(0, "a"), ref(1, inner), num(1+len(s), 1))
		wantFault(t, s+"]", len(s), api.ErrLexByte)
		wantFault(t, "["+s+"]", 0, api.ErrLexRef)
		for end := 1; end < len(s); end++ {
			wantFault(t, s[:end], 0, api.ErrLexRef)
			wantFault(t, "+ "+s[:end], 2, api.ErrLexRef)
		}
	}
}

// P12.1: brackets without a reference, that do not end, or end in quotes alone.
func TestReferencesWrong(t *testing.T) {
	for _, s := range []string{
		"[", "[]", "[ ]", "[[]", "[[]]", "[A1]", "[.a1]", "[.A0]", "[.A01]", "[.AMK1]", "[.A1048577]", "[.A1 ]", "[ .A1]", "[.A1:]", "[.A1:.]", "[.A1:B2]", "[.A1;.B2]", "[#REF!]", "[.#REF!1]", "[1]", "[.A1:b.B2]", "['ab'.A1]", "[''.A1]", "[é.A1]", "[\xff]", "[.A1\x00]",
		"['a]b'.A1]", "['a[b'.A1]", "['[]'.A1]", "[']'.A1]", "[a.A1:']'.B2]", "['a b'.A1:'c]d'.B2]", "[']']", "[''']']", "[.A1']", "[.A1']'", "[']", "['.A1]", "['a b.A1]", "[']'", "['']'']", "['a''b'.A1]", "[.A1", "[.A1 + 1", "[.A1:.B2 ; \"]",
	} {
		wantFault(t, s, 0, api.ErrLexRef)
		wantFault(t, "[.A1]"+s, 5, api.ErrLexRef)
		wantFault(t, "a + "+s+" ", 4, api.ErrLexRef)
	}
	wantFault(t, "[]?", 0, api.ErrLexRef)
	wantFault(t, "x [] [.A1]", 2, api.ErrLexRef)
	for b := range 256 {
		c := string([]byte{byte(b)})
		wantFault(t, "["+c+"]", 0, api.ErrLexRef)
		wantFault(t, "['"+c+"].A1", 0, api.ErrLexRef)
		check(t, "[.A1"+c+"]")
		check(t, "['"+c+"'.A1]")
	}
}

// P12.1: names with points and digits, as long as they may be and longer, told where they begin.
func TestNames(t *testing.T) {
	for _, s := range []string{"a", "Z", "_", "a1", "A1", "a.b", "a..b.", "_1", "__", "x.1", "E5", "e", "SUM", "COM.MICROSOFT.CONCAT", "TRUE", "A.1e5"} {
		want(t, s, name(0, s))
		want(t, s+"("+s+")", name(0, s), sign(len(s), "("), name(len(s)+1, s), sign(2*len(s)+1, ")"))
		want(t, s+`"`+s+`"`, name(0, s), text(len(s), s))
		want(t, s+"[.A1]", name(0, s), ref(len(s), ".A1"))
		want(t, s+"#N/A", name(0, s), failure(len(s), api.ENA))
		want(t, "1 "+s, num(0, 1), name(2, s))
		wantFault(t, s+"$1", len(s), api.ErrLexByte)
		wantFault(t, s+"é", len(s), api.ErrLexByte)
		wantFault(t, s+":", len(s), api.ErrLexByte)
	}
	for _, behind := range []string{"a", "Z", "_", "0", ".", "a.", "1_"} {
		long := ("n" + strings.Repeat(behind, api.MaxName))[:api.MaxName]
		want(t, long, name(0, long))
		want(t, " "+long+" "+long, name(1, long), name(2+api.MaxName, long))
		want(t, long+"+1", name(0, long), sign(api.MaxName, "+"), num(api.MaxName+1, 1))
		for _, more := range []string{"a", "0", ".", "_", "a b"} {
			wantFault(t, long+more, 0, api.ErrLexName)
			wantFault(t, "1+"+long+more, 2, api.ErrLexName)
		}
		wantFault(t, long+long, 0, api.ErrLexName)
		wantFault(t, long+strings.Repeat("x", api.MaxFormula-api.MaxName), 0, api.ErrLexName)
	}
	// what is directly behind a number is told of the number, however long it is
	wantFault(t, "1"+strings.Repeat("x", 99), 0, api.ErrLexNum)
}

// P12.1: each error's text, the beginnings of each, and a # with something else behind it.
func TestErrors(t *testing.T) {
	all := everyError()
	for i, s := range all {
		want(t, s, failure(0, i+1))
		want(t, s+s+" "+s, failure(0, i+1), failure(len(s), i+1), failure(2*len(s)+1, i+1))
		want(t, "1"+s+"a", num(0, 1), failure(1, i+1), name(1+len(s), "a"))
		want(t, s+"!", failure(0, i+1), sign(len(s), "!"))
		want(t, s+"1", failure(0, i+1), num(len(s), 1))
		for end := 1; end < len(s); end++ {
			wantFault(t, s[:end], 0, api.ErrLexErr)
			wantFault(t, "a "+s[:end], 2, api.ErrLexErr)
			wantFault(t, s[:end]+" "+s[end:], 0, api.ErrLexErr)
			wantFault(t, s[:end]+"x"+s[end:], 0, api.ErrLexErr)
		}
		// each error behind each other one, so that none is taken for a longer one
		for k, other := range all {
			want(t, s+other, failure(0, i+1), failure(len(s), k+1))
			if i != k && strings.HasPrefix(other, s) {
				t.Errorf("%s begins %s", s, other)
			}
		}
	}
	for _, s := range []string{"#", "##", "##N/A", "# N/A", "#X", "#n/a", "#N/a", "#NA", "#N", "#N/", "#NULL", "#NULL?", "#NAME!", "#NAME", "#NUM", "#NUM?", "#DIV/0", "#DIV/1!", "#GETTING_DATA", "#1", "#\"", "#é", "#\xff", "#\x00", "#[.A1]"} {
		wantFault(t, s, 0, api.ErrLexErr)
		wantFault(t, "1 "+s, 2, api.ErrLexErr)
		wantFault(t, "#N/A"+s, 4, api.ErrLexErr)
	}
}

// P12.1: each sign, also those that begin others, at the end of a text and ahead of each other one.
func TestSigns(t *testing.T) {
	for _, s := range everySign() {
		want(t, s, sign(0, s))
		want(t, "a"+s, name(0, "a"), sign(1, s))
		want(t, s+"1", sign(0, s), num(len(s), 1))
		want(t, s+" "+s, sign(0, s), sign(len(s)+1, s))
		for _, other := range everySign() {
			want(t, s+" "+other, sign(0, s), sign(len(s)+1, other))
			check(t, s+other)
			check(t, "a"+s+other+"b")
		}
	}
	want(t, "<=", sign(0, "<="))
	want(t, "=<", sign(0, "="), sign(1, "<"))
	want(t, "=>", sign(0, "="), sign(1, ">"))
	want(t, "><", sign(0, ">"), sign(1, "<"))
	want(t, "<<", sign(0, "<"), sign(1, "<"))
	want(t, "==", sign(0, "="), sign(1, "="))
	want(t, "<>=", sign(0, "<>"), sign(2, "="))
	want(t, "<=>", sign(0, "<="), sign(2, ">"))
	want(t, ">==", sign(0, ">="), sign(2, "="))
	want(t, ">=<>", sign(0, ">="), sign(2, "<>"))
	want(t, "<<>>", sign(0, "<"), sign(1, "<>"), sign(3, ">"))
	want(t, "<<=>>=", sign(0, "<"), sign(1, "<="), sign(3, ">"), sign(4, ">="))
	want(t, "!=", sign(0, "!"), sign(1, "="))
	want(t, "--%%", sign(0, "-"), sign(1, "-"), sign(2, "%"), sign(3, "%"))
	want(t, "{1|2}", sign(0, "{"), num(1, 1), sign(2, "|"), num(3, 2), sign(4, "}"))
	for _, s := range []string{",", ":", "'", "]", "?", "@", "$", "\\", "`", ".", "…", "≤", "×"} {
		wantFault(t, s, 0, api.ErrLexByte)
		wantFault(t, "<"+s, 1, api.ErrLexByte)
	}
}
