package lexis_test

import (
	"math"
	"strings"
	"testing"

	"gridiron/api"
	"gridiron/lexis"
)

func wantName(t *testing.T, s string, is bool) {
	t.Helper()
	if got := lexis.Name(s); got != is || modelName(s) != is {
		t.Errorf("Name(%s): %v, the model's %v, want %v", short(s), got, modelName(s), is)
	}
	x := name(0, s)
	if !is {
		wantNoText(t, x, api.ErrArg)
		return
	}
	wantText(t, x, s)
	want(t, s, x)
}

// P12.2: names, each byte at the first and at a later place.
func TestName(t *testing.T) {
	for b := range 256 {
		c := string([]byte{byte(b)})
		first := strings.Contains(capitals+smalls+"_", c)
		later := first || strings.Contains(digits+".", c)
		wantName(t, c, first)
		wantName(t, c+"a", first)
		wantName(t, "a"+c, later)
		wantName(t, "a"+c+"1", later)
		wantName(t, "_."+c, later)
		wantName(t, strings.Repeat("a", api.MaxName-1)+c, later)
		wantName(t, strings.Repeat("a", api.MaxName)+c, false)
	}
	for _, s := range []string{"A.b_1", "SUM", "x", "a..", "_1.2"} {
		wantName(t, s, true)
	}
	for _, s := range []string{"", "1a", ".a", " a", "a ", "a b", "é", "aé", "a\u0301", "Ａ", "a\xff", "\ufffd", "a-b", "a$", "#N/A", `"a"`} {
		wantName(t, s, false)
	}
	for n := 1; n < 200; n++ {
		wantName(t, strings.Repeat("n", n), n <= api.MaxName)
		wantName(t, "n"+strings.Repeat(".", n-1), n <= api.MaxName)
	}
	wantName(t, strings.Repeat("n", 1<<20), false)
}

func wantQuote(t *testing.T, s, quoted string, errno api.Errno) {
	t.Helper()
	if got, e := lexis.Quote(s); got != quoted || e != errno {
		t.Errorf("Quote(%s): %s, %d, want %s, %d", short(s), short(got), e, short(quoted), errno)
	}
	if got, e := modelQuote(s); got != quoted || e != errno {
		t.Errorf("the model of Quote(%s): %s, %d, want %s, %d", short(s), short(got), e, short(quoted), errno)
	}
	if errno == api.OK {
		wantText(t, text(0, s), quoted)
	} else {
		wantNoText(t, text(0, s), errno)
	}
}

// P12.2: Quote of quotes, of what may not be, of what is too long, and of both at once.
func TestQuote(t *testing.T) {
	for s, quoted := range map[string]string{"": `""`, "a": `"a"`, `"`: `""""`, `""`: `""""""`, `a"b`: `"a""b"`, `"a"`: `"""a"""`, `a""b`: `"a""""b"`, "é": `"é"`, "'": `"'"`, "\t\n\r": "\"\t\n\r\"", "\uFFFD\U0010FFFF\x7f\u0085": "\"\uFFFD\U0010FFFF\x7f\u0085\"", "[.A1]": `"[.A1]"`} {
		wantQuote(t, s, quoted, api.OK)
	}
	bad := []string{"\x00", "a\x1f", "\x0b", "\xff", "é\xc3", "\xed\xa0\x80", "\ufffe", "\uffff", "\"\x80", "\xf4\x90\x80\x80"}
	for _, s := range bad {
		wantQuote(t, s, "", api.ErrLexText)
	}
	for _, c := range []string{"a", `"`, "é", "\n", "\U0001F600"} {
		full := strings.Repeat(c, api.MaxText/len(c))
		wantQuote(t, full, `"`+strings.ReplaceAll(full, `"`, `""`)+`"`, api.OK)
		wantQuote(t, full+"a", "", api.ErrLong)
		wantQuote(t, full+`"`, "", api.ErrLong)
		wantQuote(t, full+full, "", api.ErrLong)
		for _, s := range bad {
			wantQuote(t, full+s, "", api.ErrLexText)
			wantQuote(t, s+full+full, "", api.ErrLexText)
			wantQuote(t, full[:api.MaxText-len(c)*len(s)]+s, "", api.ErrLexText)
		}
	}
}

// wantText holds Text against a text, and Tokens of that against the token.
func wantText(t *testing.T, x api.Lexeme, written string) {
	t.Helper()
	for _, at := range []int{x.At, 0, 1, -1, math.MaxInt, math.MinInt} {
		x.At = at
		if got, errno := lexis.Text(x); got != written || errno != api.OK {
			t.Errorf("Text(%s): %s, %d, want %s", told(x), short(got), errno, short(written))
		}
	}
	if got, errno := modelText(x); got != written || errno != api.OK {
		t.Errorf("the model of Text(%s): %s, %d, want %s", told(x), short(got), errno, short(written))
	}
	if len(written) > api.MaxFormula {
		return
	}
	want(t, written, without(x))
}

func wantNoText(t *testing.T, x api.Lexeme, want api.Errno) {
	t.Helper()
	for _, at := range []int{x.At, 0, 7} {
		x.At = at
		if got, errno := lexis.Text(x); got != "" || errno != want {
			t.Errorf("Text(%s): %s, %d, want %d", told(x), short(got), errno, want)
		}
	}
	if got, errno := modelText(x); got != "" || errno != want {
		t.Errorf("the model of Text(%s): %s, %d, want %d", told(x), short(got), errno, want)
	}
}

// P12.2, P12.3: of each kind a token and its text.
func TestText(t *testing.T) {
	for x, written := range map[float64]string{0: "0", 0.5: "0.5", 1: "1", 1500: "1500", 1e20: "100000000000000000000", 1e21: "1E21", 1e-6: "0.000001", 1e-7: "1E-7", 1.25e-7: "1.25E-7", math.MaxFloat64: "1.7976931348623157E308", math.SmallestNonzeroFloat64: "5E-324", 0.1: "0.1", 1 << 53: "9007199254740992", 2.2250738585072014e-308: "2.2250738585072014E-308"} {
		wantText(t, num(3, x), written)
	}
	for _, x := range []float64{-1, -0.5, math.Copysign(0, -1), -math.MaxFloat64, -math.SmallestNonzeroFloat64, math.NaN(), math.Copysign(math.NaN(), -1), math.Inf(1), math.Inf(-1)} {
		wantNoText(t, num(0, x), api.ErrArg)
	}
	wantText(t, text(0, ""), `""`)
	wantText(t, text(0, `a"b`), `"a""b"`)
	wantText(t, text(0, strings.Repeat("a", api.MaxFormula-2)), `"`+strings.Repeat("a", api.MaxFormula-2)+`"`)
	wantText(t, text(0, strings.Repeat(`"`, api.MaxFormula/2-1)), strings.Repeat(`"`, api.MaxFormula))
	wantText(t, text(0, strings.Repeat(`"`, api.MaxText)), strings.Repeat(`"`, 2*api.MaxText+2))
	wantNoText(t, text(0, strings.Repeat("a", api.MaxText+1)), api.ErrLong)
	wantNoText(t, text(0, "\x00"), api.ErrLexText)
	wantNoText(t, text(0, "\xff"+strings.Repeat("a", api.MaxText+1)), api.ErrLexText)
	for _, inner := range []string{".A1", ".$A$1:.B2", "a.A1:b.B2", "$'x y'.A1", "'\"'.A1"} {
		wantText(t, ref(9, inner), "["+inner+"]")
	}
	for _, r := range []api.Ref{{Sheet: "a]"}, {Sheet: "a'b"}, {To: "a"}, {Fixed: true}, {Sheet: "a", To: "b"}, {A: api.Corner{Row: -1}}, {A: api.Corner{Row: api.MaxRows}}, {A: api.Corner{Col: -1}}, {A: api.Corner{Col: api.MaxCols}}, {B: api.Corner{Row: 1}}, {B: api.Corner{AbsCol: true}}, {Area: true, B: api.Corner{Col: math.MaxInt}}, {Sheet: "\xff"}, {Sheet: strings.Repeat("a", 65)}} {
		wantNoText(t, api.Lexeme{Kind: api.LRef, Ref: r}, api.ErrArg)
	}
	wantText(t, api.Lexeme{Kind: api.LRef}, "[.A1]")
	for code := -3; code < 15; code++ {
		if code >= 1 && code <= 9 {
			wantText(t, failure(0, code), everyError()[code-1])
		} else {
			wantNoText(t, failure(0, code), api.ErrArg)
		}
	}
	wantNoText(t, failure(0, math.MinInt), api.ErrArg)
	wantNoText(t, failure(0, math.MaxInt), api.ErrArg)
}

// P12.2, P12.3: each sign, and what is none.
func TestTextOfSigns(t *testing.T) {
	for _, s := range everySign() {
		wantText(t, sign(2, s), s)
		for _, no := range []string{s + s, " " + s, s + " ", s + "a", "=" + s, s + "\x00"} {
			wantNoText(t, sign(0, no), api.ErrArg)
		}
		wantNoText(t, name(0, s), api.ErrArg)
	}
	for b := range 256 {
		s := string([]byte{byte(b)})
		if _, errno := modelText(sign(0, s)); errno == api.OK {
			wantText(t, sign(0, s), s)
		} else {
			wantNoText(t, sign(0, s), api.ErrArg)
		}
	}
	for _, no := range []string{"", "=<", "=>", "><", "<<", "<>=", "!=", "==", ":", "a", "1", `"`, "[", "#", "#N/A", "≤"} {
		wantNoText(t, sign(0, no), api.ErrArg)
	}
}

// P12.2: other Kinds, and fields that a kind has not.
func TestTextSoiled(t *testing.T) {
	nan := math.NaN()
	good := []api.Lexeme{num(0, 1), num(0, 0), text(0, "a"), text(0, ""), ref(0, ".A1"), ref(0, "a.A1:b.B2"), name(0, "a"), failure(0, api.ENA), sign(0, "+")}
	for _, kind := range []int{0, 7, -1, 8, 99, math.MinInt, math.MaxInt} {
		wantNoText(t, api.Lexeme{Kind: kind}, api.ErrArg)
		for _, x := range good {
			x.Kind = kind
			wantNoText(t, x, api.ErrArg)
		}
	}
	for _, x := range good {
		for _, n := range []float64{1, -1, 0.5, nan, math.Inf(1), math.Inf(-1), math.SmallestNonzeroFloat64, -math.SmallestNonzeroFloat64} {
			if soiled := x; x.Kind != api.LNum {
				soiled.Num = n
				wantNoText(t, soiled, api.ErrArg)
			}
		}
		for _, s := range []string{"a", "+", "1", " ", "\x00", "\xff", strings.Repeat("a", api.MaxText+1)} {
			if soiled := x; x.Kind == api.LNum || x.Kind == api.LRef || x.Kind == api.LErr {
				soiled.Text = s
				wantNoText(t, soiled, api.ErrArg)
			}
		}
		for _, r := range []api.Ref{{Sheet: "a"}, {To: "a"}, {Fixed: true}, {Area: true}, {A: api.Corner{Row: 1}}, {A: api.Corner{Col: 1}}, {A: api.Corner{AbsRow: true}}, {A: api.Corner{AbsCol: true}}, {B: api.Corner{Row: 1}}, {B: api.Corner{Col: -1}}, {B: api.Corner{AbsRow: true}}, {B: api.Corner{AbsCol: true}}} {
			if soiled := x; x.Kind != api.LRef {
				soiled.Ref = r
				wantNoText(t, soiled, api.ErrArg)
			}
		}
		for _, code := range []int{1, 9, -1, 10, math.MinInt} {
			if soiled := x; x.Kind != api.LErr {
				soiled.Err = code
				wantNoText(t, soiled, api.ErrArg)
			}
		}
	}
	// told ahead of Quote's errors
	for _, s := range []string{"\x00", "\xff", strings.Repeat("a", api.MaxText+1)} {
		wantNoText(t, api.Lexeme{Kind: api.LText, Text: s, Num: 1}, api.ErrArg)
		wantNoText(t, api.Lexeme{Kind: api.LText, Text: s, Err: 1}, api.ErrArg)
		wantNoText(t, api.Lexeme{Kind: api.LText, Text: s, Ref: api.Ref{Area: true}}, api.ErrArg)
	}
	// a Num of -0 that a kind has not is zero
	for _, x := range good {
		if x.Kind != api.LNum {
			written, _ := modelText(x)
			x.Num = math.Copysign(0, -1)
			if got, errno := lexis.Text(x); got != written || errno != api.OK {
				t.Errorf("Text(%s): %s, %d, want %s", told(x), short(got), errno, short(written))
			}
		}
	}
}
