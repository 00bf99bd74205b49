package print_test

import (
	"math"
	"strings"
	"testing"

	"gridiron/api"
)

// P14.2: the chapter's examples.
func TestExamples(t *testing.T) {
	want(t, op(api.NSub, name("a"), op(api.NSub, name("b"), num(1))), "a-(b-1)")
	want(t, op(api.NPow, op(api.NPow, num(2), num(3)), num(2)), "2^3^2")
	want(t, op(api.NPow, num(2), op(api.NPow, num(3), num(2))), "2^(3^2)")
	want(t, op(api.NNeg, op(api.NPow, num(2), num(2))), "-(2^2)")
	want(t, op(api.NPow, op(api.NNeg, num(2)), num(2)), "-2^2")
	want(t, op(api.NPer, op(api.NAdd, num(1), num(2))), "(1+2)%")
	want(t, op(api.NNeg, op(api.NNeg, num(1))), "--1")
	want(t, call("F", miss(), miss()), "F(;)")
	want(t, array(2, num(1), num(-2)), "{1|-2}")
	wantNone(t, num(-1), api.ErrPrint)
}

// P14.2: each term that is no operator's, by itself and where others hold it.
func TestLeaves(t *testing.T) {
	for _, x := range everyLeaf() {
		want(t, x.term, x.text)
		want(t, call("G", x.term), "G("+x.text+")")
		want(t, call("G", miss(), x.term, x.term), "G(;"+x.text+";"+x.text+")")
		for _, s := range signsOf(2) {
			want(t, op(s.op, x.term, name("b")), x.text+s.text+"b")
			want(t, op(s.op, name("b"), x.term), "b"+s.text+x.text)
		}
		want(t, op(api.NPlus, x.term), "+"+x.text)
		want(t, op(api.NNeg, x.term), "-"+x.text)
		want(t, op(api.NPer, x.term), x.text+"%")
	}
	// nothing of what stands side by side runs together
	for _, a := range everyLeaf() {
		for _, b := range everyLeaf() {
			for _, s := range signsOf(2) {
				want(t, op(s.op, a.term, b.term), a.text+s.text+b.text)
			}
		}
	}
}

// P14.2: numbers have number.Text's texts.
func TestNumbers(t *testing.T) {
	for x, said := range map[float64]string{
		0: "0", 1: "1", 0.5: "0.5", 10: "10", 0.1: "0.1", 123.456: "123.456", 1e20: "100000000000000000000", 1e21: "1E21", 1e-6: "0.000001", 1e-7: "1E-7", 1.5e-7: "1.5E-7", 2.5e300: "2.5E300",
		math.MaxFloat64: "1.7976931348623157E308", math.SmallestNonzeroFloat64: "5E-324", 1 << 53: "9007199254740992", 0.30000000000000004: "0.30000000000000004",
	} {
		want(t, num(x), said)
		want(t, op(api.NAdd, num(x), num(x)), said+"+"+said)
		want(t, op(api.NSub, name("e"), num(x)), "e-"+said)
		want(t, op(api.NNeg, num(x)), "-"+said)
		want(t, call("F", num(x)), "F("+said+")")
		want(t, array(1, num(x)), "{"+said+"}")
		if x > 0 {
			want(t, array(1, num(x), num(-x)), "{"+said+";-"+said+"}")
			wantNone(t, num(-x), api.ErrPrint)
		}
	}
}

// P14.2: texts between quotes.
func TestTexts(t *testing.T) {
	for s, said := range map[string]string{
		"": `""`, "a": `"a"`, `"`: `""""`, `""`: `""""""`, `a"b`: `"a""b"`, `"a`: `"""a"`, " ": `" "`, " a  b ": `" a  b "`, "\t\r\n": "\"\t\r\n\"", "a\nb": "\"a\nb\"",
		"=1+2": `"=1+2"`, "(;)": `"(;)"`, "é\U0001F600": "\"é\U0001F600\"", "[.A1]": `"[.A1]"`, "'": `"'"`, "#N/A": `"#N/A"`,
	} {
		want(t, text(s), said)
		want(t, op(api.NCat, text(s), text(s)), said+"&"+said)
		want(t, call("F", text(s), text(s)), "F("+said+";"+said+")")
		want(t, array(2, text(s), text(s)), "{"+said+"|"+said+"}")
	}
	wantNone(t, text(strings.Repeat("a", api.MaxText)), api.ErrLong)
	wantNone(t, text(strings.Repeat(`"`, api.MaxText)), api.ErrLong)
	wantNone(t, text(strings.Repeat("a", api.MaxText+1)), api.ErrPrint)
}

// P14.2: errors by their texts.
func TestErrors(t *testing.T) {
	for i, said := range []string{"#NULL!", "#DIV/0!", "#VALUE!", "#REF!", "#NAME?", "#NUM!", "#N/A", "#CYCLE!", "#LIMIT!"} {
		x := failure(i + 1)
		want(t, x, said)
		want(t, op(api.NCommon, x, x), said+"!"+said)
		want(t, op(api.NPer, x), said+"%")
		want(t, array(1, x, x), "{"+said+";"+said+"}")
		want(t, call("F", x, x), "F("+said+";"+said+")")
	}
}

// P14.2: references between brackets.
func TestReferences(t *testing.T) {
	b2 := api.Corner{Row: 1, Col: 1}
	last := api.Corner{Row: api.MaxRows - 1, Col: api.MaxCols - 1}
	fixed := func(c api.Corner, row, col bool) api.Corner {
		c.AbsRow, c.AbsCol = row, col
		return c
	}
	for said, r := range map[string]api.Ref{
		"[.A1]":                        {},
		"[.B2]":                        {A: b2},
		"[.$B2]":                       {A: fixed(b2, false, true)},
		"[.B$2]":                       {A: fixed(b2, true, false)},
		"[.$B$2]":                      {A: fixed(b2, true, true)},
		"[.AMJ1048576]":                {A: last},
		"[.A1:.A1]":                    {Area: true},
		"[.A1:.B2]":                    {Area: true, B: b2},
		"[.B2:.A1]":                    {Area: true, A: b2},
		"[.$A$1:.AMJ$1048576]":         {Area: true, A: fixed(api.Corner{}, true, true), B: fixed(last, true, false)},
		"[Sheet1.A1]":                  {Sheet: "Sheet1"},
		"[$Sheet1.A1]":                 {Sheet: "Sheet1", Fixed: true},
		"['x y'.A1]":                   {Sheet: "x y"},
		"[$'x y'.$B$2:.B2]":            {Sheet: "x y", Fixed: true, Area: true, A: fixed(b2, true, true), B: b2},
		"[Sheet1.A1:Sheet3.B2]":        {Sheet: "Sheet1", To: "Sheet3", Area: true, B: b2},
		"['1a'.A1:'é'.B2]":             {Sheet: "1a", To: "é", Area: true, B: b2},
		`['a"b'.A1:S.B2]`:              {Sheet: `a"b`, To: "S", Area: true, B: b2},
		"['(;)'.A1]":                   {Sheet: "(;)"},
		"['.'.B2]":                     {Sheet: ".", A: b2},
		"[$'#N!A'.B2:'={|}~'.AMJ$2]":   {Sheet: "#N!A", Fixed: true, To: "={|}~", Area: true, A: b2, B: api.Corner{Row: 1, Col: api.MaxCols - 1, AbsRow: true}},
		"['" + longName(" ") + "'.A1]": {Sheet: longName(" ")},
	} {
		x := ref(r)
		want(t, x, said)
		want(t, call("SUM", x, x), "SUM("+said+";"+said+")")
		want(t, op(api.NUnion, x, op(api.NCommon, x, x)), said+"~"+said+"!"+said)
		want(t, op(api.NNeg, x), "-"+said)
		want(t, op(api.NPer, x), said+"%")
	}
}

// longName is a sheet's name that is as long as there may be, with something in it.
func longName(within string) string {
	return "s" + within + strings.Repeat("s", api.MaxName-1-len(within))
}

// P14.2: names as they are, and calls with arguments that are there and not.
func TestNamesAndCalls(t *testing.T) {
	for _, s := range []string{"a", "A", "_", "rate", "Rate", "true", "TRUE", "e5", "A1", "a.b_9", "_.", strings.Repeat("n", api.MaxName)} {
		want(t, name(s), s)
		want(t, op(api.NPow, name(s), name(s)), s+"^"+s)
	}
	for _, s := range []string{"F", "_", "TRUE", "A.B_9", "E5", strings.Repeat("N", api.MaxName)} {
		want(t, call(s), s+"()")
		want(t, call(s, name("a")), s+"(a)")
		want(t, op(api.NMul, call(s), call(s, num(1))), s+"()*"+s+"(1)")
	}
	a, b := name("a"), op(api.NAdd, num(1), num(2))
	want(t, call("F", b), "F(1+2)")
	want(t, call("F", a, b), "F(a;1+2)")
	want(t, call("F", miss(), a), "F(;a)")
	want(t, call("F", a, miss()), "F(a;)")
	want(t, call("F", a, miss(), b), "F(a;;1+2)")
	want(t, call("F", miss(), miss(), a, miss(), b, miss(), miss()), "F(;;a;;1+2;;)")
	want(t, call("F", miss(), miss(), miss()), "F(;;)")
	want(t, call("F", call("G", call("H", miss(), a)), call("I")), "F(G(H(;a));I())")
	want(t, call("F", times(api.MaxArgs, a)...), "F("+strings.Repeat("a;", api.MaxArgs-1)+"a)")
	want(t, call("F", times(api.MaxArgs, miss())...), "F("+strings.Repeat(";", api.MaxArgs-1)+")")
	// an argument stands without parentheses, whatever it is
	for _, s := range everySign() {
		x := s.of(name("a"))
		said := map[int]string{1: s.text + "a", 2: "a" + s.text + "z"}[s.operands]
		if s.op == api.NPer {
			said = "a%"
		}
		want(t, x, said)
		want(t, call("F", x, miss(), x), "F("+said+";;"+said+")")
	}
}

// P14.2: arrays, row by row.
func TestArrays(t *testing.T) {
	yes, no := call("TRUE"), call("FALSE")
	want(t, array(1, num(1)), "{1}")
	want(t, array(1, num(0)), "{0}")
	want(t, array(1, num(-1)), "{-1}")
	want(t, array(1, yes), "{TRUE}")
	want(t, array(1, no), "{FALSE}")
	want(t, array(1, text(`|;"`)), `{"|;"""}`)
	want(t, array(1, failure(api.ERef)), "{#REF!}")
	want(t, array(1, num(1), num(2), num(3)), "{1;2;3}")
	want(t, array(3, num(1), num(2), num(3)), "{1|2|3}")
	want(t, array(2, num(1), num(2), num(3), num(4)), "{1;2|3;4}")
	want(t, array(2, num(1), num(2), num(3), num(4), num(5), num(6)), "{1;2;3|4;5;6}")
	want(t, array(3, num(1), num(2), num(3), num(4), num(5), num(6)), "{1;2|3;4|5;6}")
	want(t, array(3, num(-1.5), num(0), text(""), failure(api.EDiv), yes, no), `{-1.5;0|"";#DIV/0!|TRUE;FALSE}`)
	want(t, array(1, num(-math.MaxFloat64), num(-math.SmallestNonzeroFloat64)), "{-1.7976931348623157E308;-5E-324}")
	want(t, op(api.NNeg, array(1, num(-1))), "-{-1}")
	want(t, op(api.NSub, array(1, num(1)), array(1, num(-1), yes)), "{1}-{-1;TRUE}")
	want(t, call("F", array(2, yes, no), call("TRUE")), "F({TRUE|FALSE};TRUE())")
	// as long a row as fits into a formula, and as many rows
	n := (api.MaxFormula - 2) / 2
	want(t, array(1, times(n, num(7))...), "{"+strings.Repeat("7;", n-1)+"7}")
	want(t, array(n, times(n, num(7))...), "{"+strings.Repeat("7|", n-1)+"7}")
	wantNone(t, array(1, times(n+1, num(7))...), api.ErrLong)
	wantNone(t, array(1, times(api.MaxArea, num(7))...), api.ErrLong)
	wantNone(t, array(1, times(api.MaxArea+1, num(7))...), api.ErrPrint)
}
