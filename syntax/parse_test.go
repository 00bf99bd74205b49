package syntax_test

import (
	"math"
	"strings"
	"testing"

	"gridiron/api"
	"gridiron/syntax"
)

// check holds Parse of a text against the model.
func check(t *testing.T, s string) (api.Term, api.Errno) {
	t.Helper()
	got, at, errno := syntax.Parse(s)
	term, place, e := modelParse(s)
	if !alike(got, term) || at != place || errno != e {
		t.Errorf("Parse(%s): %s, %d, %d, want %s, %d, %d", short(s), told(got), at, errno, told(term), place, e)
	}
	return got, errno
}

func want(t *testing.T, s string, term api.Term) {
	t.Helper()
	got, at, errno := syntax.Parse(s)
	if !alike(got, term) || at != 0 || errno != api.OK {
		t.Errorf("Parse(%s): %s, %d, %d, want %s", short(s), told(got), at, errno, told(term))
	}
	check(t, s)
}

func wantNot(t *testing.T, s string, at int, errno api.Errno) {
	t.Helper()
	got, place, e := syntax.Parse(s)
	if !alike(got, api.Term{}) || place != at || e != errno {
		t.Errorf("Parse(%s): %s, %d, %d, want %d, %d", short(s), told(got), place, e, at, errno)
	}
	check(t, s)
}

// P13.1: the chapter's examples.
func TestExamples(t *testing.T) {
	want(t, "=1+2*3", op(api.NAdd, num(1), op(api.NMul, num(2), num(3))))
	want(t, "=-2^2", op(api.NPow, op(api.NNeg, num(2)), num(2)))
	want(t, "=2^3^2", op(api.NPow, op(api.NPow, num(2), num(3)), num(2)))
	want(t, "=1-2-3", op(api.NSub, op(api.NSub, num(1), num(2)), num(3)))
	want(t, "=SUM([.A1:.A2];;1)", call("SUM", ref(".A1:.A2"), miss(), num(1)))
	want(t, "={1;2|3;4}", array(2, num(1), num(2), num(3), num(4)))
	wantNot(t, "={1;2|3}", 7, api.ErrSyntax)
	wantNot(t, "=1 2", 3, api.ErrSyntax)
	wantNot(t, "", 0, api.ErrSyntax)
}

// P13.1: each kind of operand by itself, in parentheses and with blanks.
func TestPrimes(t *testing.T) {
	primes := map[string]api.Term{
		"0": num(0), "1.5E3": num(1500), `""`: text(""), `"a""b"`: text(`a"b`), "#NULL!": failure(1), "#LIMIT!": failure(9),
		"[.A1]": ref(".A1"), "[$'x y'.$A$1:.B2]": ref("$'x y'.$A$1:.B2"), "[S.A1:T.B2]": ref("S.A1:T.B2"),
		"rate": name("rate"), "Rate": name("Rate"), "TRUE": name("TRUE"), "_": name("_"), "F()": call("F"), "{1}": array(1, num(1)),
	}
	for s, term := range primes {
		want(t, "="+s, term)
		want(t, "=("+s+")", term)
		want(t, "=((("+s+")))", term)
		want(t, " \t= ( "+s+"\r\n) ", term)
		wantNot(t, s, 0, api.ErrSyntax)
		wantNot(t, "=="+s, 1, api.ErrSyntax)
		wantNot(t, "="+s+")", 1+len(s), api.ErrSyntax)
		wantNot(t, "=("+s, 2+len(s), api.ErrSyntax)
		wantNot(t, "=("+s+" ", 3+len(s), api.ErrSyntax)
		for other := range primes {
			wantNot(t, "="+s+" "+other, 2+len(s), api.ErrSyntax)
		}
	}
}

// P13.1: each sign once, twice and three times, which binds to the left.
func TestSignsAgain(t *testing.T) {
	a, b, c, d := name("a"), num(2), ref(".A1"), text("x")
	for _, s := range everyBetween() {
		want(t, "=a"+s.text+"2", op(s.op, a, b))
		want(t, "=a"+s.text+"2"+s.text+"[.A1]", op(s.op, op(s.op, a, b), c))
		want(t, "=a"+s.text+"2"+s.text+`[.A1]`+s.text+`"x"`, op(s.op, op(s.op, op(s.op, a, b), c), d))
		want(t, "=a"+s.text+"(2"+s.text+"[.A1])", op(s.op, a, op(s.op, b, c)))
		want(t, "=(a"+s.text+"2)"+s.text+"[.A1]", op(s.op, op(s.op, a, b), c))
		wantNot(t, "=a"+s.text, 2+len(s.text), api.ErrSyntax)
		wantNot(t, "=a"+s.text+" ", 3+len(s.text), api.ErrSyntax)
		wantNot(t, "=a"+s.text+")", 2+len(s.text), api.ErrSyntax)
		if s.text != "+" && s.text != "-" {
			wantNot(t, "="+s.text+"a", 1, api.ErrSyntax)
			wantNot(t, "=a "+s.text+" "+s.text+" a", 4+len(s.text), api.ErrSyntax)
		}
	}
}

// P13.1: each pair of operators, with and without parentheses; with prefix signs and % at each operand.
func TestPairs(t *testing.T) {
	for _, first := range everyBetween() {
		for _, second := range everyBetween() {
			toLeft := op(second.op, op(first.op, name("a"), name("b")), name("c"))
			toRight := op(first.op, name("a"), op(second.op, name("b"), name("c")))
			plain := toLeft
			if second.level > first.level {
				plain = toRight
			}
			want(t, "=a "+first.text+" b "+second.text+" c", plain)
			want(t, "=(a "+first.text+" b)"+second.text+" c", toLeft)
			want(t, "=a "+first.text+"(b "+second.text+" c)", toRight)
			for _, a := range []string{"a", "-a", "a%", "+a%"} {
				for _, b := range []string{"b", "+b", "b%", "--b%%"} {
					check(t, "="+a+" "+first.text+" "+b+" "+second.text+" "+a)
				}
			}
			for _, third := range everyBetween() {
				check(t, "=a"+first.text+"b"+second.text+"c"+third.text+"d")
			}
		}
	}
}

// P13.1: prefix signs behind each operator, one behind the other, ahead of % and of references.
func TestPrefixes(t *testing.T) {
	neg := func(x api.Term) api.Term { return op(api.NNeg, x) }
	want(t, "=-1", neg(num(1)))
	want(t, "=+1", op(api.NPlus, num(1)))
	want(t, "=--1", neg(neg(num(1))))
	want(t, "=-+-a", neg(op(api.NPlus, neg(name("a")))))
	want(t, "=-1%", op(api.NPer, neg(num(1))))
	want(t, "=-(1%)", neg(op(api.NPer, num(1))))
	want(t, "=-[.A1]", neg(ref(".A1")))
	want(t, "=-[.A1]~[.B1]", neg(op(api.NUnion, ref(".A1"), ref(".B1"))))
	want(t, "=-[.A1]![.B1]", neg(op(api.NCommon, ref(".A1"), ref(".B1"))))
	want(t, "=-F()", neg(call("F")))
	want(t, "=-{1}", neg(array(1, num(1))))
	want(t, "=2^-2", op(api.NPow, num(2), neg(num(2))))
	want(t, "=2--2", op(api.NSub, num(2), neg(num(2))))
	want(t, "=-2*3", op(api.NMul, neg(num(2)), num(3)))
	for _, s := range everyBetween() {
		if s.level > 7 {
			wantNot(t, "=a"+s.text+"-b", 2+len(s.text), api.ErrSyntax)
			wantNot(t, "=a"+s.text+"+b", 2+len(s.text), api.ErrSyntax)
			want(t, "=a"+s.text+"(-b)", op(s.op, name("a"), neg(name("b"))))
			continue
		}
		want(t, "=a"+s.text+"-b", op(s.op, name("a"), neg(name("b"))))
		want(t, "=a"+s.text+"+b", op(s.op, name("a"), op(api.NPlus, name("b"))))
		want(t, "=a"+s.text+"-+b%", op(s.op, name("a"), op(api.NPer, neg(op(api.NPlus, name("b"))))))
	}
	for _, s := range []string{"=-", "=+", "=1+-", "=(-", "=F(-", "=F(1;+"} {
		wantNot(t, s, len(s), api.ErrSyntax)
	}
	wantNot(t, "=-*1", 2, api.ErrSyntax)
	wantNot(t, "=(-)", 3, api.ErrSyntax)
	wantNot(t, "=F(-;1)", 4, api.ErrSyntax)
}

// P13.1: % behind each kind of operand.
func TestPercent(t *testing.T) {
	for s, x := range map[string]api.Term{"1": num(1), `"a"`: text("a"), "#N/A": failure(7), "[.A1]": ref(".A1"), "a": name("a"), "F(1)": call("F", num(1)), "{1}": array(1, num(1)), "(a+b)": op(api.NAdd, name("a"), name("b")), "a~b": op(api.NUnion, name("a"), name("b")), "a!b": op(api.NCommon, name("a"), name("b")), "-a": op(api.NNeg, name("a"))} {
		once := op(api.NPer, x)
		want(t, "="+s+"%", once)
		want(t, "="+s+"%%", op(api.NPer, once))
		want(t, "="+s+" % % %", op(api.NPer, op(api.NPer, once)))
		want(t, "=("+s+"%)%", op(api.NPer, once))
		want(t, "=2^"+s+"%", op(api.NPow, num(2), once))
		want(t, "="+s+"%*2", op(api.NMul, once, num(2)))
		wantNot(t, "="+s+"%1", len(s)+2, api.ErrSyntax)
		wantNot(t, "="+s+"%~1", len(s)+2, api.ErrSyntax)
		wantNot(t, "="+s+"%!1", len(s)+2, api.ErrSyntax)
		wantNot(t, "="+s+"%(", len(s)+2, api.ErrSyntax)
	}
	wantNot(t, "=%", 1, api.ErrSyntax)
	wantNot(t, "=%1", 1, api.ErrSyntax)
	wantNot(t, "=1+%", 3, api.ErrSyntax)
	wantNot(t, "=-%", 2, api.ErrSyntax)
}

// P13.1: calls with arguments that are there and not; functions' names in capitals.
func TestCalls(t *testing.T) {
	want(t, "=F()", call("F"))
	want(t, "=F( )", call("F"))
	want(t, "=f ( 1 )", call("F", num(1)))
	want(t, "=sUm.x_z9(a)", call("SUM.X_Z9", name("a")))
	want(t, "=_(a)", call("_", name("a")))
	want(t, "=true()", call("TRUE"))
	want(t, "=F(;)", call("F", miss(), miss()))
	want(t, "=F(;;)", call("F", miss(), miss(), miss()))
	want(t, "=F(;1)", call("F", miss(), num(1)))
	want(t, "=F(1;)", call("F", num(1), miss()))
	want(t, "=F(1;;2)", call("F", num(1), miss(), num(2)))
	want(t, "=F(1;2;;)", call("F", num(1), num(2), miss(), miss()))
	want(t, "=F(;;a+1;;)", call("F", miss(), miss(), op(api.NAdd, name("a"), num(1)), miss(), miss()))
	want(t, "=F(g(h(;x)))", call("F", call("G", call("H", miss(), name("x")))))
	want(t, "=F(1)+g(2)", op(api.NAdd, call("F", num(1)), call("G", num(2))))
	want(t, "=F(1)%", op(api.NPer, call("F", num(1))))
	want(t, "=F((1))", call("F", num(1)))
	for s, at := range map[string]int{"=F(": 3, "=F(1": 4, "=F(1;": 5, "=F(;": 4, "=F(1 2)": 5, "=F(1|2)": 4, "=F(1,2)": -1, "=F)": 2, "=F(1))": 5, "=F(})": 3, "=F(|": 3, "=F()()": 4, "=F() 1": 5, "=()": 2, "=(;)": 2, "=(1;2)": 3, "=1(2)": 2, `="a"(2)`: 4, "=[.A1](2)": 6, "=#N/A(2)": 5, "=F(*)": 3, "=F(1*)": 5, "=F(1;*)": 5, "=F(=)": 3, "=F(1}": 4} {
		if at >= 0 {
			wantNot(t, s, at, api.ErrSyntax)
		} else {
			wantNot(t, s, 4, api.ErrLexByte)
		}
	}
}

// P13.1: as many arguments as there may be, and one more, there and missing.
func TestArgsMost(t *testing.T) {
	for _, each := range []string{"1", "", "a+b", "F(;)"} {
		all := "=F(" + strings.Repeat(each+";", api.MaxArgs-1)
		got, errno := check(t, all+each+")")
		if errno != api.OK || len(got.Args) != api.MaxArgs {
			t.Errorf("%d Args of %s: %d", len(got.Args), each, errno)
		}
		check(t, all+each)
		for _, more := range []string{"1", "1)", "", ")", ";)", " )", "   2)", "*", "F(", "%", ";", "}", "|"} {
			blanks := len(more) - len(strings.TrimLeft(more, " "))
			wantNot(t, all+each+";"+more, len(all+each)+1+blanks, api.ErrMany)
		}
	}
	// the arguments of each call are counted by themselves
	full := "F(" + strings.Repeat("1;", api.MaxArgs-1) + "1)"
	all := "=G(" + strings.Repeat(full+";", api.MaxArgs-1) + full
	if got, errno := check(t, all+")"); errno != api.OK || syntax.Count(got) != 1+api.MaxArgs*(1+api.MaxArgs) {
		t.Errorf("calls within a call: %d, %d", syntax.Count(got), errno)
	}
	wantNot(t, all+";"+full+")", len(all)+1, api.ErrMany)
	wantNot(t, "=G("+full[:len(full)-1]+";1)", 3+len(full), api.ErrMany)
}

// P13.1: arrays, their items and rows.
func TestArrays(t *testing.T) {
	want(t, "={1}", array(1, num(1)))
	want(t, "={1;2;3}", array(1, num(1), num(2), num(3)))
	want(t, "={1|2|3}", array(3, num(1), num(2), num(3)))
	want(t, `={-1;0|"a";#N/A|true;False}`, array(3, num(-1), num(0), text("a"), failure(7), call("TRUE"), call("FALSE")))
	want(t, "={TRUE;tRUE;FALSE;fALsE}", array(1, call("TRUE"), call("TRUE"), call("FALSE"), call("FALSE")))
	want(t, "={ - 1.5 ; -0 | - 0.0 ; -1E300 }", array(2, num(-1.5), num(0), num(0), num(-1e300)))
	want(t, "={1}+{2}", op(api.NAdd, array(1, num(1)), array(1, num(2))))
	want(t, "=F({1;2};3)", call("F", array(1, num(1), num(2)), num(3)))
	want(t, "={1}%", op(api.NPer, array(1, num(1))))
	got, _, _ := syntax.Parse("={-0}")
	if len(got.Args) != 1 || math.Signbit(got.Args[0].Num) {
		t.Error("-0 did not stay 0")
	}
	for s, at := range map[string]int{
		"={}": 2, "={": 2, "={1": 3, "={1;": 4, "={1|": 4, "={;1}": 2, "={|1}": 2, "={1;}": 4, "={1|}": 4, "={1;;2}": 4, "={1||2}": 4, "={1 2}": 4,
		"={1;2|3}": 7, "={1;2|3|4;5}": 7, "={1|2;3}": 5, "={1;2|3;4;5}": 9, "={1;2|3;4;}": 9, "={1;2|3": 7, "={1;2|3;": 8, "={1;2|3;4": 9, "={1;2|3;}": 8, "={1;2|}": 6, "={1;2||3;4}": 6, "={1;2|;4}": 6,
		"={a}": 2, "={1;a}": 4, "={TRU}": 2, "={TRUE()}": 6, "={F()}": 2, "={+1}": 2, "={--1}": 3, `={-"a"}`: 3, "={-#N/A}": 3, "={-TRUE}": 3, "={-}": 3, "={-": 3, "={[.A1]}": 2, "={(1)}": 2, "={{1}}": 2, "={1+2}": 3, "={1%}": 3, "={1)": 3, "=1}": 2, "={1}}": 4, "={=1}": 2, "={1}{2}": 4, "={1;-[.A1]}": 5,
	} {
		wantNot(t, s, at, api.ErrSyntax)
	}
	// as long a row as fits into a formula, and as many rows
	for _, between := range []string{";", "|"} {
		n := (api.MaxFormula - 2) / 2
		got, errno := check(t, "={"+strings.Repeat("1"+between, n-1)+"1}")
		if errno != api.OK || len(got.Args) != n || got.Rows != map[string]int{";": 1, "|": n}[between] {
			t.Errorf("an array of %d items: %d, %d rows, %d", n, len(got.Args), got.Rows, errno)
		}
		wantNot(t, "={"+strings.Repeat("1"+between, api.MaxArea), api.MaxFormula, api.ErrLong)
	}
}

// P13.1: errors of tokens are told ahead of those of the grammar; of the grammar's the first one.
func TestOrder(t *testing.T) {
	wantNot(t, ")1 ?", 3, api.ErrLexByte)
	wantNot(t, "=1 2 1a", 5, api.ErrLexNum)
	wantNot(t, `=) "a`, 3, api.ErrLexText)
	wantNot(t, "=) [A1]", 3, api.ErrLexRef)
	wantNot(t, "1 #X", 2, api.ErrLexErr)
	wantNot(t, "1 "+strings.Repeat("a", 65), 2, api.ErrLexName)
	wantNot(t, strings.Repeat(")", api.MaxFormula+1), api.MaxFormula, api.ErrLong)
	wantNot(t, strings.Repeat(" ", api.MaxFormula), api.MaxFormula, api.ErrSyntax)
	wantNot(t, strings.Repeat(" ", api.MaxFormula-2)+"=1)", api.MaxFormula, api.ErrLong)
	want(t, strings.Repeat(" ", api.MaxFormula-2)+"=1", num(1))
	wantNot(t, "=1 2 )", 3, api.ErrSyntax)
	wantNot(t, "1 2", 0, api.ErrSyntax)
	wantNot(t, " ", 1, api.ErrSyntax)
	wantNot(t, "=", 1, api.ErrSyntax)
	wantNot(t, "= ", 2, api.ErrSyntax)
	wantNot(t, "  1", 2, api.ErrSyntax)
	wantNot(t, "==1", 1, api.ErrSyntax)
	wantNot(t, "=1==1", 3, api.ErrSyntax)
	wantNot(t, "=1=", 3, api.ErrSyntax)
	many := "F(" + strings.Repeat(";", api.MaxArgs) + ")"
	wantNot(t, "=1 2+"+many, 3, api.ErrSyntax)
	wantNot(t, "="+many+" 1", 3+api.MaxArgs, api.ErrMany)
	deep := strings.Repeat("(", api.MaxDepth)
	wantNot(t, "=1 2"+deep+"1", 3, api.ErrSyntax)
	wantNot(t, "="+deep+"1 2", 1+api.MaxDepth, api.ErrNested)
	wantNot(t, "="+many+deep, 3+api.MaxArgs, api.ErrMany)
	wantNot(t, "="+deep+many, 1+api.MaxDepth, api.ErrNested)
}

// P13.1: a row of tokens of each kind, at each place where it can stand and where it can't.
func TestTokenRows(t *testing.T) {
	all := []string{"1", `"a"`, "#N/A", "[.A1]", "x", "TRUE", "(", ")", "{", "}", ";", "|", "~", "!", "^", "*", "/", "+", "-", "&", "=", "<>", "<", "<=", ">", ">=", "%"}
	few := []string{"1", "x", "(", ")", "{", "}", ";", "|", "~", "*", "-", "%", "="}
	rows := func(of []string, most int, within string) {
		var grow func(s string, left int)
		grow = func(s string, left int) {
			check(t, s)
			if left == 0 {
				return
			}
			for _, x := range of {
				grow(s+" "+x, left-1)
			}
		}
		grow(within, most)
	}
	rows(all, 3, "")
	rows(all, 3, "=")
	rows(few, 4, "=")
	rows(few, 3, "=F(")
	rows(few, 3, "={1")
	rows(few, 3, "={1;2|")
	rows(few, 3, "=F(1;")
	rows(few, 3, "=(a+")
}

// P13.1, P13.5: drawn formulas, their beginnings, and what is made of them by other tokens, held against the model.
func TestDrawn(t *testing.T) {
	d := draws(1)
	seen := map[api.Errno]int{}
	for range 4000 {
		term := d.term(d.below([]int{4, 12, 40}[d.below(3)]))
		s := "=" + written(term)
		got, errno := check(t, s)
		if errno == api.OK && !alike(got, term) {
			t.Errorf("Parse(%s): %s, want %s", short(s), told(got), told(term))
		}
		seen[errno]++
		tokens := cut(s)
		for range 6 {
			_, errno := check(t, d.spoiled(tokens))
			seen[errno]++
		}
	}
	for range 30000 {
		s := "="
		for range d.below(12) {
			s += d.token() + d.one("", " ")
		}
		_, errno := check(t, s)
		seen[errno]++
	}
	if seen[api.OK] < 5000 || seen[api.ErrSyntax] < 5000 {
		t.Errorf("drawn: %v", seen)
	}
}

// P13.1: drawn texts near the depth's and the arguments' edges.
func TestDrawnDeep(t *testing.T) {
	d := draws(2)
	seen := map[api.Errno]int{}
	for range 5000 {
		s, closing := "=", ""
		for range 34 + d.below(30) {
			switch d.below(7) {
			case 0, 1:
				s += "("
				closing = ")" + closing
			case 2:
				s += "F(" + strings.Repeat(";", d.below(3))
				closing = ")" + closing
			case 3:
				s += d.one("-", "+")
			case 4:
				s += d.one("1+", "1+a-", "1*", "1^", "1=", "1&", "(1~2)*", "(a!b)/")
			case 5:
				s += d.one("1%%+", "F(;)^", "a<>", "{1}&")
			case 6:
				s += d.one("1+2+3*", "1&2&3&", "a-b-c-d-")
			}
		}
		s += d.one("1", "1%", "", ")", "F()", "F(;)", "F(1)", "(1)", "-1", "a~b", "a!b", "{1;2}", ";", "*") + closing
		_, errno := check(t, s)
		seen[errno]++
	}
	if seen[api.OK] < 500 || seen[api.ErrNested] < 1000 || seen[api.ErrSyntax] < 200 {
		t.Errorf("drawn: %v", seen)
	}
}
