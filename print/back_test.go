package print_test

import (
	"testing"

	"gridiron/api"
	"gridiron/print"
	"gridiron/syntax"
)

// P14.2, P14.3, P13.4, P14.5: of drawn terms that syntax.Check takes the formula is read as the term, and is as short as it can be.
func TestDrawnTerms(t *testing.T) {
	d := draws(14)
	small, all := 0, 0
	for range 6000 {
		x := d.term(d.below(pick(&d, 4, 12, 40)))
		if !syntax.Check(x) {
			t.Fatalf("Check refuses %s", told(x))
		}
		formula := wantBack(t, x)
		all++
		if syntax.Count(x) < 20 {
			small++
			if model := modelTerm(x); formula != "="+model {
				t.Errorf("Formula(%s): %s, want %s", told(x), short(formula), short(model))
			}
		}
		wantNeeded(t, formula, x)
	}
	if small < 3000 || all-small < 500 {
		t.Errorf("drawn: %d small ones of %d", small, all)
	}
}

// P14.4: two terms that are not the same have unlike texts, however near they are.
func TestUnlike(t *testing.T) {
	d := draws(144)
	seen := map[string]api.Term{}
	unlike, refused := 0, 0
	for range 10000 {
		x := d.term(d.below(pick(&d, 3, 6, 20)))
		for range 4 {
			y := d.near(x)
			formula, errno := print.Formula(y)
			if taken := syntax.Check(y); taken != (errno == api.OK) || !taken && (errno != api.ErrPrint || formula != "") {
				t.Errorf("Formula(%s): %s, %d, and Check %v", told(y), short(formula), errno, taken)
			}
			if errno != api.OK {
				refused++
				continue
			}
			if of, ok := seen[formula]; ok && !syntax.Same(of, y) {
				t.Errorf("%s is the text of %s and of %s", short(formula), told(of), told(y))
			}
			seen[formula] = y
			own, _ := print.Formula(x)
			if (own == formula) != syntax.Same(x, y) {
				t.Errorf("%s, %s: %s, %s", told(x), told(y), short(own), short(formula))
			}
			if own != formula {
				unlike++
			}
		}
	}
	if unlike < 5000 || refused < 5000 {
		t.Errorf("drawn: %d unlike, %d refused", unlike, refused)
	}
}

// wantAgain holds what is made of a formula's term against what it says, and against what is made of that.
func wantAgain(t *testing.T, s string) bool {
	t.Helper()
	x, _, errno := syntax.Parse(s)
	if errno != api.OK {
		return false
	}
	if !syntax.Check(x) {
		wantNone(t, x, api.ErrPrint)
		return false
	}
	formula := wantBack(t, x)
	y, _, _ := syntax.Parse(formula)
	if again, errno := print.Formula(y); again != formula || errno != api.OK {
		t.Errorf("of %s there is made %s, and of that %s, %d", short(s), short(formula), short(again), errno)
	}
	return true
}

// P14.3, P13.4: drawn texts that syntax.Parse takes, however they are laid out.
func TestDrawnTexts(t *testing.T) {
	d := draws(1414)
	nested := 0
	for range 6000 {
		x := d.term(d.below(pick(&d, 4, 10)))
		s := d.blank() + "=" + d.loose(x)
		got, at, errno := syntax.Parse(s)
		if errno == api.ErrNested {
			nested++
			continue
		}
		if errno != api.OK || !syntax.Same(got, x) {
			t.Fatalf("Parse(%s): %s, %d, %d, want %s", short(s), told(got), at, errno, told(x))
		}
		if !wantAgain(t, s) {
			t.Errorf("%s has no text", short(s))
		}
		loose, _ := print.Formula(got)
		if own, errno := print.Formula(x); loose != own || errno != api.OK {
			t.Errorf("Formula(%s): %s, %d, but %s was read as %s", told(x), short(own), errno, short(s), short(loose))
		}
	}
	if nested > 600 {
		t.Errorf("drawn: %d were too deep", nested)
	}
	taken := 0
	for range 40000 {
		s := "="
		for range 1 + d.below(9) {
			s += d.token() + pick(&d, "", " ")
		}
		if wantAgain(t, s) {
			taken++
		}
	}
	if taken < 2000 {
		t.Errorf("drawn: %d of them were taken", taken)
	}
}

// P14.3: each operator between each two operands, with and without parentheses, is printed as it is read.
func TestEveryText(t *testing.T) {
	operands := []string{"1", "a", "-a", "a%", "(a)", "F(a;)", "{1}", "[.A1]", "#REF!", `"t"`}
	taken := 0
	for _, first := range signsOf(2) {
		for _, second := range signsOf(2) {
			for _, a := range operands {
				for _, b := range operands[:5] {
					for _, s := range []string{a + first.text + b + second.text + "c", "(" + a + first.text + b + ")" + second.text + "c", "c" + first.text + "(" + a + second.text + b + ")", "-(" + a + first.text + b + ")%" + second.text + "c"} {
						if wantAgain(t, "="+s) {
							taken++
						}
					}
				}
			}
		}
	}
	if taken < 20000 {
		t.Errorf("%d were taken", taken)
	}
}
