package lexis_test

import (
	"regexp"
	"strings"
	"testing"

	"gridiron/api"
	"gridiron/lexis"
	"gridiron/refs"
)

func num(at int, x float64) api.Lexeme {
	return api.Lexeme{Kind: api.LNum, Num: x, At: at}
}

func text(at int, s string) api.Lexeme {
	return api.Lexeme{Kind: api.LText, Text: s, At: at}
}

func name(at int, s string) api.Lexeme {
	return api.Lexeme{Kind: api.LName, Text: s, At: at}
}

func sign(at int, s string) api.Lexeme {
	return api.Lexeme{Kind: api.LSign, Text: s, At: at}
}

func failure(at, code int) api.Lexeme {
	return api.Lexeme{Kind: api.LErr, Err: code, At: at}
}

// ref is a token of what stands between brackets.
func ref(at int, inner string) api.Lexeme {
	r, _, errno := refs.Parse(inner)
	if errno != api.OK {
		panic(inner)
	}
	return api.Lexeme{Kind: api.LRef, Ref: r, At: at}
}

// collected are the tokens that All tells, whose numbers rise from 0 on.
func collected(t *testing.T, s string) []api.Lexeme {
	t.Helper()
	var out []api.Lexeme
	for i, x := range lexis.All(s) {
		if i != len(out) {
			t.Errorf("All(%s): the number %d, want %d", short(s), i, len(out))
		}
		out = append(out, x)
	}
	return out
}

// check holds Tokens and All against the model, and what follows of them.
func check(t *testing.T, s string) api.Errno {
	t.Helper()
	want, place, e := modelTokens(s)
	if all := collected(t, s); !allAlike(all, want) {
		t.Errorf("All(%s): %s, want %s", short(s), told(all), told(want))
	}
	if e != api.OK {
		want = nil
	}
	got, at, errno := lexis.Tokens(s)
	if !allAlike(got, want) || at != place || errno != e {
		t.Errorf("Tokens(%s): %s, %d, %d, want %s, %d, %d", short(s), told(got), at, errno, told(want), place, e)
	}
	if errno == api.OK {
		checkKept(t, s, got)
		checkBack(t, got)
	}
	return errno
}

var numberText = regexp.MustCompile(`^[0-9]+(\.[0-9]+)?([Ee][-+]?[0-9]+)?$`)

// checkKept holds P12.4: what stands ahead of the next token, blanks aside, is the whole text of a token.
func checkKept(t *testing.T, s string, l []api.Lexeme) {
	t.Helper()
	end := len(s)
	for i := len(l) - 1; i >= 0; i-- {
		if l[i].At < 0 || l[i].At >= end {
			t.Errorf("Tokens(%s): the place %d, ahead of %d", short(s), l[i].At, end)
			return
		}
		written := strings.TrimRight(s[l[i].At:end], blanks)
		want, _ := modelText(l[i])
		if l[i].Kind == api.LNum && !numberText.MatchString(written) || l[i].Kind != api.LNum && written != want {
			t.Errorf("Tokens(%s): %s is all that is told of %s", short(s), told(l[i]), short(written))
		}
		end = l[i].At
	}
	if strings.Trim(s[:end], blanks) != "" {
		t.Errorf("Tokens(%s): nothing is told of %s", short(s), short(s[:end]))
	}
}

// checkBack holds P12.3: tokens' Texts, by themselves and with blanks between them, are read as these tokens.
func checkBack(t *testing.T, l []api.Lexeme) {
	t.Helper()
	var all strings.Builder
	var want []api.Lexeme
	for i, x := range l {
		written, errno := lexis.Text(x)
		if errno != api.OK {
			t.Errorf("Text(%s): %d", told(x), errno)
		}
		if i > 0 {
			all.WriteByte(blanks[i%len(blanks)])
		}
		x.At = all.Len()
		want = append(want, x)
		all.WriteString(written)
		if len(written) > api.MaxFormula {
			continue
		}
		if back, at, errno := lexis.Tokens(written); len(back) != 1 || !alike(back[0], without(x)) || at != 0 || errno != api.OK {
			t.Errorf("Tokens(%s): %s, %d, %d, want %s", short(written), told(back), at, errno, told(without(x)))
		}
	}
	if all.Len() > api.MaxFormula {
		return
	}
	if got, at, errno := lexis.Tokens(all.String()); !allAlike(got, want) || at != 0 || errno != api.OK {
		t.Errorf("Tokens(%s): %s, %d, %d, want %s", short(all.String()), told(got), at, errno, told(want))
	}
}

// want holds Tokens against some tokens.
func want(t *testing.T, s string, l ...api.Lexeme) {
	t.Helper()
	if got, at, errno := lexis.Tokens(s); !allAlike(got, l) || at != 0 || errno != api.OK {
		t.Errorf("Tokens(%s): %s, %d, %d, want %s", short(s), told(got), at, errno, told(l))
	}
	check(t, s)
}

// wantFault holds Tokens against the place and the error of what may not be.
func wantFault(t *testing.T, s string, at int, errno api.Errno) {
	t.Helper()
	if got, place, e := lexis.Tokens(s); len(got) != 0 || place != at || e != errno {
		t.Errorf("Tokens(%s): %s, %d, %d, want %d, %d", short(s), told(got), place, e, at, errno)
	}
	check(t, s)
}

// P12.1: the chapter's examples.
func TestExamples(t *testing.T) {
	want(t, "1+[.A1:.B2]", num(0, 1), sign(1, "+"), ref(2, ".A1:.B2"))
	want(t, `"a""b"`, text(0, `a"b`))
	want(t, "#N/A", failure(0, api.ENA))
	want(t, "A<>B", name(0, "A"), sign(1, "<>"), name(3, "B"))
	want(t, "1.5e3", num(0, 1500))
	wantFault(t, "1.", 0, api.ErrLexNum)
	wantFault(t, "1a", 0, api.ErrLexNum)
	wantFault(t, `"a`, 0, api.ErrLexText)
	wantFault(t, "[A1]", 0, api.ErrLexRef)
	wantFault(t, "#X", 0, api.ErrLexErr)
	wantFault(t, "x ?", 2, api.ErrLexByte)
}

// P12.1: tokens of all kinds one behind the other, with places by bytes.
func TestMixed(t *testing.T) {
	want(t, `=SUM([.A1:.A2];;1.5)`, sign(0, "="), name(1, "SUM"), sign(4, "("), ref(5, ".A1:.A2"), sign(14, ";"), sign(15, ";"), num(16, 1.5), sign(19, ")"))
	want(t, `={1;-2|"é";#NUM!}`, sign(0, "="), sign(1, "{"), num(2, 1), sign(3, ";"), sign(4, "-"), num(5, 2), sign(6, "|"), text(7, "é"), sign(11, ";"), failure(12, api.ENum), sign(17, "}"))
	want(t, `a"b"c`, name(0, "a"), text(1, "b"), name(4, "c"))
	want(t, `"a"1"b"`, text(0, "a"), num(3, 1), text(4, "b"))
	want(t, `[.A1][.B2]`, ref(0, ".A1"), ref(5, ".B2"))
	want(t, `#N/A#N/A1`, failure(0, api.ENA), failure(4, api.ENA), num(8, 1))
	want(t, `#N/Ax`, failure(0, api.ENA), name(4, "x"))
	want(t, `1[.A1]#REF!"x"_`, num(0, 1), ref(1, ".A1"), failure(6, api.ERef), text(11, "x"), name(14, "_"))
	want(t, `-1E-1-1`, sign(0, "-"), num(1, 0.1), sign(5, "-"), num(6, 1))
	want(t, "1 2\t3", num(0, 1), num(2, 2), num(4, 3))
	want(t, `['x y'.A1]~[$a.B2:c.$D$4]!x`, ref(0, "'x y'.A1"), sign(10, "~"), ref(11, "$a.B2:c.$D$4"), sign(25, "!"), name(26, "x"))
}

// P12.1: of two things that may not be the first one is told, whatever it is.
func TestTwoFaults(t *testing.T) {
	faults := map[string]api.Errno{"1.": api.ErrLexNum, "1x": api.ErrLexNum, "1E999": api.ErrLexNum, "\"a\x00\"": api.ErrLexText, "[A1]": api.ErrLexRef, "[]": api.ErrLexRef, strings.Repeat("n", 65): api.ErrLexName, "#X": api.ErrLexErr, "?": api.ErrLexByte, "\xff": api.ErrLexByte}
	open := map[string]api.Errno{`"a`: api.ErrLexText, "[.A1": api.ErrLexRef, "['": api.ErrLexRef}
	for first, errno := range faults {
		wantFault(t, first, 0, errno)
		for _, l := range []map[string]api.Errno{faults, open} {
			for second, other := range l {
				wantFault(t, first+" "+second, 0, errno)
				wantFault(t, "a+ "+first+" "+second, 3, errno)
				wantFault(t, "a "+second, 2, other)
			}
		}
	}
	// what is not closed takes all that stands behind it
	for first, errno := range open {
		for second := range faults {
			if !strings.Contains(second, `"`) && !strings.Contains(second, "]") {
				wantFault(t, "1 "+first+" "+second, 2, errno)
			}
		}
	}
}

// P12.1: texts of MaxFormula bytes, and of one more, right or wrong.
func TestTooLong(t *testing.T) {
	for _, s := range []string{" ", "+", "(", "a ", "1 ", `"" `, "[.A1] ", "#N/A ", "?", "\xff", "\x00", "#", "1", "a", `"`, "["} {
		full := strings.Repeat(s, api.MaxFormula/len(s)+1)[:api.MaxFormula]
		if check(t, full) == api.ErrLong {
			t.Errorf("a text of MaxFormula bytes of %q is too long", s)
		}
		wantFault(t, full+s[:1], api.MaxFormula, api.ErrLong)
		wantFault(t, full+" ", api.MaxFormula, api.ErrLong)
		wantFault(t, full+full, api.MaxFormula, api.ErrLong)
		for range lexis.All(full + " ") {
			t.Errorf("All of a text that is too long of %q tells something", s)
		}
	}
	if got, _, _ := lexis.Tokens(strings.Repeat("+", api.MaxFormula)); len(got) != api.MaxFormula || got[api.MaxFormula-1].At != api.MaxFormula-1 {
		t.Errorf("%d signs", len(got))
	}
	inner := strings.Repeat("x", api.MaxFormula-2)
	want(t, `"`+inner+`"`, text(0, inner))
	wantFault(t, `"`+inner+`x"`, api.MaxFormula, api.ErrLong)
	wantFault(t, `"`+strings.Repeat("x", api.MaxText)+`"`, api.MaxFormula, api.ErrLong)
	wantFault(t, `"`+strings.Repeat("x", api.MaxText+1)+`"`, api.MaxFormula, api.ErrLong)
	wantFault(t, strings.Repeat("?", 1<<20), api.MaxFormula, api.ErrLong)
}

// P12.1, P12.4: blanks ahead of, between and behind tokens say nothing; what looks like one is none.
func TestBlanks(t *testing.T) {
	want(t, "")
	want(t, blanks)
	want(t, strings.Repeat(" ", api.MaxFormula))
	for _, b := range strings.Split(blanks, "") {
		want(t, b)
		want(t, b+b+b)
		want(t, b+"a", name(1, "a"))
		want(t, "a"+b, name(0, "a"))
		want(t, b+"a"+b+b+"1"+b, name(1, "a"), num(4, 1))
		want(t, "<"+b+">", sign(0, "<"), sign(2, ">"))
		want(t, "1"+b+"2", num(0, 1), num(2, 2))
		want(t, `"a"`+b+`"b"`, text(0, "a"), text(4, "b"))
		want(t, `"`+b+`"`, text(0, b))
		want(t, "[.A1]"+b+"[.A2]", ref(0, ".A1"), ref(6, ".A2"))
		want(t, "#N/A"+b+"#N/A", failure(0, api.ENA), failure(5, api.ENA))
		wantFault(t, "1"+b+".5", 2, api.ErrLexByte)
		want(t, "1"+b+"e5", num(0, 1), name(2, "e5"))
		wantFault(t, "1e"+b+"5", 0, api.ErrLexNum)
		wantFault(t, "["+b+".A1]", 0, api.ErrLexRef)
		wantFault(t, "[.A1"+b+"]", 0, api.ErrLexRef)
		wantFault(t, "#"+b+"N/A", 0, api.ErrLexErr)
	}
	for _, b := range []string{"\v", "\f", "\u00a0", "\u0085", "\u2003", "\u3000", "\ufeff", "\x00", "\x1f", "\x1c", "\u200b"} {
		wantFault(t, b, 0, api.ErrLexByte)
		wantFault(t, "a "+b+"1", 2, api.ErrLexByte)
		wantFault(t, "a"+b, 1, api.ErrLexByte)
	}
}

// P12.1: every byte by itself, behind each kind of token and behind a blank.
func TestEveryByte(t *testing.T) {
	begins := capitals + smalls + "_(){};|~!^*/+-&=<>%" + digits
	for b := range 256 {
		s := string([]byte{byte(b)})
		switch {
		case strings.Contains(blanks, s):
			want(t, s)
		case strings.Contains(capitals+smalls+"_", s):
			want(t, s, name(0, s))
		case strings.Contains(digits, s):
			want(t, s, num(0, float64(b-'0')))
		case strings.Contains(begins, s):
			want(t, s, sign(0, s))
		case s == `"`:
			wantFault(t, s, 0, api.ErrLexText)
		case s == "[":
			wantFault(t, s, 0, api.ErrLexRef)
		case s == "#":
			wantFault(t, s, 0, api.ErrLexErr)
		default:
			wantFault(t, s, 0, api.ErrLexByte)
			for _, ahead := range []string{" ", "a", "1", `"x"`, "[.A1]", "#N/A", "+", "<", "a\t"} {
				if s != "." || ahead != "a" && ahead != "1" {
					wantFault(t, ahead+s, len(ahead), api.ErrLexByte)
				}
			}
		}
		for _, ahead := range []string{" ", "a", "1", "1.", "1e", "1e+", `"x"`, `"`, "[", "[.A", "[.A1]", "#", "#N/A", "#NULL", "<", ">", "="} {
			for _, behind := range []string{"", " ", "1", "a", "!", `"`, "]", "=", ">"} {
				check(t, ahead+s+behind)
			}
		}
	}
}

// every hands on each text of up to so many of some signs.
func every(signs []string, most int, hand func(string)) {
	layer := []string{""}
	for range most {
		var next []string
		for _, s := range layer {
			for _, more := range signs {
				hand(s + more)
				next = append(next, s+more)
			}
		}
		layer = next
	}
}

// P12.1, P12.3, P12.4: every short text of some signs, held against the model.
func TestEveryShort(t *testing.T) {
	for signs, most := range map[string]int{
		"0 9 . e E + - _ a":      5,
		"\" a ' [ ] é \x00 \xff": 5,
		"[ ] ' . A 1 : $ a ;":    5,
		"# N / A U M ! ? E":      5,
		"< > = ! ( a 1":          5,
	} {
		all := append(strings.Split(signs, " "), " ")
		seen := map[api.Errno]int{}
		every(all, most, func(s string) { seen[check(t, s)]++ })
		if seen[api.OK] == 0 || len(seen) < 2 {
			t.Errorf("the texts of %q have not come to much: %v", signs, seen)
		}
	}
	for a := range 256 {
		for b := range 256 {
			check(t, string([]byte{byte(a), byte(b)}))
		}
	}
}

// P12.1, P12.3, P12.4: drawn texts, whole and spoiled, held against the model.
func TestDrawn(t *testing.T) {
	d := draws(12)
	seen := map[api.Errno]int{}
	for range 30000 {
		s := d.formula()
		seen[check(t, s)]++
		for range 1 + d.below(3) {
			s = d.spoiled(s)
			seen[check(t, s)]++
		}
	}
	for _, errno := range []api.Errno{api.OK, api.ErrLexByte, api.ErrLexNum, api.ErrLexText, api.ErrLexRef, api.ErrLexName, api.ErrLexErr} {
		if seen[errno] < 100 {
			t.Errorf("the error %d was drawn %d times", errno, seen[errno])
		}
	}
}
