package syntax_test

import (
	"strings"
	"testing"

	"gridiron/api"
	"gridiron/lexis"
	"gridiron/syntax"
)

// deeper is a way to go deeper: what stands ahead of what is one deeper.
type deeper struct {
	ahead  string
	behind string
}

func everyDeeper() []deeper {
	out := []deeper{{"(", ")"}, {"F(", ")"}, {"F(;", ")"}, {"F(;;", ";)"}, {"-", ""}, {"+", ""}}
	for _, s := range everyBetween() {
		out = append(out, deeper{"a" + s.text + "(", ")"})
	}
	return out
}

// steps is by how much a way goes deeper.
func (w deeper) steps() int {
	if strings.HasPrefix(w.ahead, "a") {
		return 2
	}
	return 1
}

// P13.1: as deep as there may be by each way, and one more, whatever token stands there.
func TestDepthEdges(t *testing.T) {
	firsts := []string{"1", `"a"`, "#N/A", "[.A1]", "x", "(", ")", "{", "}", ";", "|", "~", "*", "+", "-", "=", "%", "F("}
	for _, way := range everyDeeper() {
		n := (api.MaxDepth - 1) / way.steps()
		for extra := range 2 {
			// where a way goes by two, parentheses make up for the odd one
			outer := (api.MaxDepth - 1) - n*way.steps() + extra
			s := "=" + strings.Repeat("(", outer) + strings.Repeat(way.ahead, n)
			closing := strings.Repeat(way.behind, n) + strings.Repeat(")", outer)
			for _, first := range firsts {
				if extra == 0 {
					check(t, s+first+closing)
					continue
				}
				if way.ahead[:1] == "F" && (first == ")" || first == ";") {
					// there is no argument
					check(t, s+first+closing)
					continue
				}
				wantNot(t, s+" "+first, len(s)+1, api.ErrNested)
			}
			wantNot(t, s, len(s), api.ErrSyntax)
			wantNot(t, s+" ", len(s)+1, api.ErrSyntax)
			got, errno := check(t, s+"1"+closing)
			if (errno == api.OK) != (extra == 0) || errno == api.OK && !syntax.Check(got) {
				t.Errorf("%s: %d", short(s), errno)
			}
		}
	}
}

// P13.1: an operand behind the k-th operator of a line is at the line's depth and k.
func TestDepthLines(t *testing.T) {
	for _, s := range everyBetween() {
		row := "=1" + strings.Repeat(s.text+"1", api.MaxDepth-1)
		got, errno := check(t, row)
		if errno != api.OK || !syntax.Check(got) {
			t.Errorf("%s: %d", short(row), errno)
		}
		wantNot(t, row+s.text+"1", len(row+s.text), api.ErrNested)
		wantNot(t, row+s.text+")", len(row+s.text), api.ErrNested)
		wantNot(t, row+s.text, len(row+s.text), api.ErrSyntax)
		wantNot(t, row+s.text+"  ", len(row+s.text)+2, api.ErrSyntax)
		// the last operand is at the greatest depth: nothing can go deeper there, but a closer line's first operand, a call without arguments, an array
		behind := row[:len(row)-1]
		for last, place := range map[string]int{"(1)": 1, "-1": 1, "F(1)": 2, "F(1": 2, "(": -1, "F(": -1, "a%": 1, "F(;a)": 3, "F(;": -1} {
			if s.level > 7 && last == "-1" {
				wantNot(t, behind+last, len(behind), api.ErrSyntax)
				continue
			}
			if s.level > 6 && last == "a%" {
				// it counts from the beginning of the row on
				check(t, behind+last)
				continue
			}
			if place < 0 {
				wantNot(t, behind+last, len(behind+last), api.ErrSyntax)
			} else {
				wantNot(t, behind+last, len(behind)+place, api.ErrNested)
			}
		}
		for _, last := range []string{"F()", "F(;)", "F(;;)", "{1}", "{1;2|3;4}", "[.A1]", `"a"`, "#N/A", "x"} {
			got, errno := check(t, behind+last)
			if errno != api.OK || !syntax.Check(got) {
				t.Errorf("%s: %d", short(behind+last), errno)
			}
		}
		for _, other := range everyBetween() {
			if other.level > s.level {
				wantNot(t, behind+"1"+other.text+"1", len(behind+"1"+other.text), api.ErrNested)
				// the first operand is at the depth of the line
				got, errno := check(t, "=1"+other.text+row[1:])
				if errno != api.OK || !syntax.Check(got) {
					t.Errorf("%s ahead of %s: %d", other.text, short(row), errno)
				}
			}
		}
	}
}

// P13.1: the k-th % counts as an operand at the depth and k, and adds nothing to what stands ahead.
func TestDepthPercent(t *testing.T) {
	signs := strings.Repeat("%", api.MaxDepth-1)
	for _, x := range []string{"1", "(1)", "(1+2)", "-1", "F(1)", "{1}", strings.Repeat("-", api.MaxDepth-1) + "1", strings.Repeat("(", api.MaxDepth-1) + "1" + strings.Repeat(")", api.MaxDepth-1)} {
		got, errno := check(t, "="+x+signs)
		if errno != api.OK || !syntax.Check(got) {
			t.Errorf("%s: %d", short(x+signs), errno)
		}
		wantNot(t, "="+x+signs+"%", 1+len(x+signs), api.ErrNested)
		wantNot(t, "="+x+signs+" % %", 2+len(x+signs), api.ErrNested)
		wantNot(t, "="+x+signs+"%)", 1+len(x+signs), api.ErrNested)
		if len(x) < api.MaxDepth {
			wantNot(t, "=1+"+x+signs, 2+len(x+signs), api.ErrNested)
			wantNot(t, "=("+x+signs+")", 1+len(x+signs), api.ErrNested)
		}
	}
	for n := range api.MaxDepth {
		// so many % at each depth
		s := "=" + strings.Repeat("(", n) + "1" + strings.Repeat("%", api.MaxDepth-1-n)
		check(t, s+strings.Repeat(")", n))
		wantNot(t, s+"%", len(s), api.ErrNested)
	}
}

// P13.1: parentheses that need not stand make a text less deep than the term's own one, which Check asks for.
func TestDepthByParentheses(t *testing.T) {
	for _, s := range everyBetween() {
		inner := "(" + strings.Repeat("1"+s.text, 40) + "1)"
		got, errno := check(t, "="+inner+strings.Repeat(s.text+"1", 40))
		if errno != api.OK || syntax.Check(got) {
			t.Errorf("%s in two rows: %d, %v", s.text, errno, syntax.Check(got))
		}
		got, errno = check(t, "="+inner+strings.Repeat(s.text+"1", 23))
		if errno != api.OK || !syntax.Check(got) {
			t.Errorf("%s in two rows: %d, %v", s.text, errno, syntax.Check(got))
		}
	}
	got, errno := check(t, "=("+"1"+strings.Repeat("%", 40)+")"+strings.Repeat("%", 40))
	if errno != api.OK || syntax.Check(got) {
		t.Errorf("%% in two rows: %d, %v", errno, syntax.Check(got))
	}
}

// cut are the tokens of a formula as texts.
func cut(s string) []string {
	var out []string
	tokens, _, _ := lexis.Tokens(s)
	for i, x := range tokens {
		end := len(s)
		if i+1 < len(tokens) {
			end = tokens[i+1].At
		}
		out = append(out, s[x.At:end])
	}
	return out
}

// P13.5: what stands between tokens counts for nothing.
func TestBlanks(t *testing.T) {
	d := draws(5)
	for range 4000 {
		s := "=" + written(d.term(d.below(14)))
		if d.below(4) == 0 {
			s = d.spoiled(cut(s))
		}
		tokens := cut(s)
		plain, _, errno := syntax.Parse(s)
		blank := []string{" ", "\t", "\n", "\r", "   ", " \r\n\t "}[d.below(6)]
		blanked := blank + strings.Join(tokens, blank) + blank
		if len(blanked) > api.MaxFormula {
			continue
		}
		got, e := check(t, blanked)
		if e != errno || !alike(got, plain) {
			t.Errorf("Parse(%s): %s, %d, without blanks %s, %d", short(blanked), told(got), e, told(plain), errno)
		}
	}
}

// P13.5: a beginning of a formula is refused, if at all, as chapter 12 refuses it, or by ErrSyntax at its last token or its end.
func TestBeginnings(t *testing.T) {
	d := draws(6)
	taken, refused := 0, 0
	for range 300 {
		s := " = " + strings.Join(cut(written(d.term(d.below(20)))), d.one("", " "))
		if _, _, errno := syntax.Parse(s); errno != api.OK {
			continue
		}
		for end := range len(s) {
			begun := s[:end]
			_, at, errno := syntax.Parse(begun)
			check(t, begun)
			if errno == api.OK {
				taken++
				continue
			}
			refused++
			tokens, place, e := lexis.Tokens(begun)
			last := len(begun)
			if len(tokens) > 0 {
				last = tokens[len(tokens)-1].At
			}
			byTokens := e != api.OK && errno == e && at == place
			byGrammar := e == api.OK && errno == api.ErrSyntax && (at == len(begun) || at == last)
			if !byTokens && !byGrammar {
				t.Errorf("Parse(%s): %d, %d", short(begun), at, errno)
			}
		}
	}
	if taken < 100 || refused < 1000 {
		t.Errorf("%d beginnings were taken, %d refused", taken, refused)
	}
}
