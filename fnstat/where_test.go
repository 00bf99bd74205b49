package fnstat_test

import (
	"slices"
	"strings"
	"testing"

	"gridiron/api"
)

// asked are an area and a text that says a criterion.
func asked(a api.Arg, c string) []api.Arg { return []api.Arg{a, single(text(c))} }

// P18.1: counts of what meets a criterion; the chapter's first example, as its words say it: a text without an operator is that text.
func TestCountIf(t *testing.T) {
	a := column(num(1), text("a"), api.Value{})
	for c, n := range map[string]float64{">0": 1, "<>a": 2, "": 0, "A": 1, "=": 1, "<>": 2, "=1": 1, "1": 0, "<>1": 2, "=a": 1, "<=1": 1, ">=a": 1, "b": 0, "<>b": 3, "<>#N/A": 3, "<>TRUE": 3, "<": 0} {
		want(t, "COUNTIF", num(n), asked(a, c)...)
		want(t, "COUNTIFS", num(n), asked(a, c)...)
		a.Ref = false
		want(t, "COUNTIF", num(n), asked(a, c)...)
		a.Ref = true
	}
	want(t, "COUNTIF", num(1), a, single(num(1)))
	want(t, "COUNTIF", num(0), a, single(api.Value{}))
	want(t, "COUNTIF", num(0), a, missing())
	want(t, "COUNTIF", num(2), numbers(0, 1, 0), missing())
	want(t, "COUNTIF", num(2), column(text(""), api.Value{}, text("")), single(text("")))
	want(t, "COUNTIF", num(1), column(text(""), api.Value{}, text("")), single(text("=")))
	// the errors of a are values, the criterion's is the answer
	errors := column(fault(api.ENA), fault(api.EDiv), num(1), fault(api.ENA))
	want(t, "COUNTIF", num(2), asked(errors, "=#N/A")...)
	want(t, "COUNTIF", num(3), asked(errors, "<>#DIV/0!")...)
	want(t, "COUNTIF", num(1), asked(errors, ">0")...)
	want(t, "COUNTIF", fault(api.ENA), errors, single(fault(api.ENA)))
	want(t, "COUNTIF", fault(api.ERef), single(fault(api.ENA)), single(fault(api.ERef)))
	want(t, "COUNTIF", fault(api.EValue), errors, numbers(1, 2))
	want(t, "COUNTIF", num(1), single(fault(api.ENA)), single(text("<>1")))
	// one that was left out has one place, which is empty
	want(t, "COUNTIF", num(1), asked(missing(), "=")...)
	want(t, "COUNTIF", num(0), asked(missing(), "=0")...)
	want(t, "COUNTIF", num(1), asked(single(text("5")), "5")...)
	want(t, "COUNTIF", num(0), asked(single(text("5")), "=5")...)
}

// P18.1: areas of great size, of which little is told.
func TestCountWide(t *testing.T) {
	a := wide(at(0, 5, num(1)), at(7, 0, text("a")), at(7, 1, text("")), at(api.MaxRows-1, api.MaxCols-1, num(3)))
	for c, n := range map[string]float64{"=": 1<<30 - 4, "<>": 4, "<>1": 1<<30 - 1, "=1": 1, ">0": 2, "": 1, "a": 1, "<>a": 1<<30 - 1, "<>#N/A": 1 << 30, "=#N/A": 0, "<=": 0} {
		want(t, "COUNTIF", num(n), asked(a, c)...)
		want(t, "COUNTIFS", num(n), append(asked(a, c), asked(a, "<>#NULL!")...)...)
		want(t, "COUNTIFS", num(0), append(asked(a, c), asked(a, "=#NULL!")...)...)
	}
	b := wide(at(0, 4, num(9)), at(0, 5, num(2)), at(7, 1, num(2)), at(8, 8, num(1)))
	for _, x := range []struct {
		c, d string
		n    float64
	}{{"=", "=", 1<<30 - 6}, {"<>", "<>", 2}, {"=", "<>", 2}, {"<>", "=", 2}, {"=1", "=2", 1}, {"<>1", "<>2", 1<<30 - 2}, {"<>1", "<>9", 1<<30 - 2}, {"=", "=9", 1}, {"<>x", "<>x", 1 << 30}, {"<>x", ">1", 3}} {
		want(t, "COUNTIFS", num(x.n), append(asked(a, x.c), asked(b, x.d)...)...)
		want(t, "COUNTIFS", num(x.n), append(asked(b, x.d), asked(a, x.c)...)...)
	}
	want(t, "COUNTIF", num(1<<30), asked(wide(), "=")...)
	want(t, "COUNTIF", num(0), asked(wide(), "<>")...)
	want(t, "SUMIF", num(4), asked(a, ">0")...)
	want(t, "SUMIF", num(2), append(asked(a, ">0"), b)...)
	want(t, "SUMIF", num(10), append(asked(a, "="), b)...)
	want(t, "AVERAGEIF", num(5), append(asked(a, "="), b)...)
	want(t, "SUMIFS", num(10), append([]api.Arg{b}, asked(a, "=")...)...)
	want(t, "SUMIFS", num(4), append([]api.Arg{b}, asked(a, "<>")...)...)
	want(t, "SUMIFS", num(2), append([]api.Arg{b}, append(asked(a, "<>"), asked(a, "=1")...)...)...)
	want(t, "MAXIFS", num(9), append([]api.Arg{b}, asked(a, "=")...)...)
	want(t, "MINIFS", num(1), append([]api.Arg{b}, asked(a, "=")...)...)
}

// P18.1: sums and means of what meets a criterion.
func TestSumIf(t *testing.T) {
	a, b := numbers(1, 2, 3), numbers(10, 20, 30)
	for _, x := range []struct {
		args []api.Arg
		sum  float64
		n    float64
	}{
		{append(asked(a, ">1"), b), 50, 2}, {asked(a, ">1"), 5, 2}, {append(asked(a, "<>2"), b), 40, 2}, {asked(a, "=2"), 2, 1}, {[]api.Arg{a, single(num(3)), b}, 30, 1},
		{append(asked(column(text("x"), text("y"), text("X")), "x"), b), 40, 2}, {append(asked(column(num(1), api.Value{}, num(1)), "="), b), 20, 1},
		{append(asked(a, ">0"), column(num(10), text("20"), truth(true))), 10, 1}, {append(asked(a, ">0"), column(num(10), text("x"), num(30))), 40, 2},
		// b smaller, greater, of another form
		{append(asked(a, ">0"), numbers(10, 20)), 30, 2}, {append(asked(a, ">0"), numbers(10, 20, 30, 40)), 60, 3}, {append(asked(a, ">0"), line(values(10, 20, 30)...)), 10, 1}, {append(asked(a, ">0"), refer(block(2, values(10, 20, 30, 40)...))), 40, 2},
		{append(asked(line(values(1, 2, 3)...), ">1"), refer(block(2, values(10, 20, 30, 40, 50, 60)...))), 50, 2}, {append(asked(line(values(1, 2, 3)...), ">1"), numbers(10, 20, 30)), 0, 0},
		{append(asked(refer(block(2, values(1, 2, 3, 4)...)), ">1"), refer(block(2, values(10, 20, 30, 40, 50, 60)...))), 110, 3}, {append(asked(refer(block(2, values(1, 2, 3, 4)...)), ">1"), refer(block(3, values(10, 20, 30)...))), 20, 1},
		{append(asked(a, "<1"), b), 0, 0}, {append(asked(a, ">0"), missing()), 6, 3}, {append(asked(a, ">0"), single(num(7))), 7, 1}, {append(asked(single(num(1)), ">0"), b), 10, 1}, {append(asked(missing(), "="), b), 10, 1},
		{append(asked(single(text("x")), "x"), single(text("5"))), 0, 0}, {asked(single(text("5")), "5"), 0, 0},
	} {
		want(t, "SUMIF", num(x.sum), x.args...)
		if x.n == 0 {
			want(t, "AVERAGEIF", fault(api.EDiv), x.args...)
		} else {
			want(t, "AVERAGEIF", num(x.sum/x.n), x.args...)
		}
	}
}

// P18.1: errors at places that meet are the answer, the first one of them; at others they are nothing; the criterion's is ahead of them.
func TestSumIfErrors(t *testing.T) {
	a := column(num(1), num(2), num(1), num(3))
	b := column(num(10), fault(api.ERef), num(30), fault(api.ENull))
	for _, name := range []string{"SUMIF", "AVERAGEIF"} {
		want(t, name, fault(api.ERef), append(asked(a, ">1"), b)...)
		want(t, name, fault(api.ENull), append(asked(a, ">2"), b)...)
		want(t, name, fault(api.ERef), append(asked(a, "<>1"), b)...)
		want(t, name, num(map[string]float64{"SUMIF": 40, "AVERAGEIF": 20}[name]), append(asked(a, "=1"), b)...)
		want(t, name, fault(api.ENull), asked(b, "=#NULL!")...)
		want(t, name, num(map[string]float64{"SUMIF": 40, "AVERAGEIF": 20}[name]), asked(b, ">0")...)
		want(t, name, fault(api.ERef), asked(b, "<>10")...)
		want(t, name, num(1), append(asked(b, "=#NULL!"), numbers(7, 7, 7, 1))...)
		want(t, name, fault(api.ENA), b, single(fault(api.ENA)))
		want(t, name, fault(api.ENA), b, single(fault(api.ENA)), b)
		want(t, name, fault(api.EValue), a, numbers(1, 1), b)
		// beyond a's end there is none
		want(t, name, num(10), append(asked(numbers(1), ">0"), b)...)
		want(t, name, num(10), append(asked(numbers(1), ">0"), line(num(10), fault(api.ERef)))...)
	}
	want(t, "SUMIF", fault(api.ENum), asked(numbers(great, great), ">0")...)
	want(t, "AVERAGEIF", fault(api.ENum), asked(numbers(great, great), ">0")...)
	// row by row
	want(t, "SUMIF", num(1), asked(block(2, values(1e16, -1e16, 1, 0)...), "<>x")...)
	want(t, "SUMIF", num(0), asked(block(2, values(1e16, 1, -1e16, 0)...), "<>x")...)
	want(t, "SUMIF", num(1), append(asked(wide(), "="), block(2, values(1e16, -1e16, 1, 0)...))...)
}

// manyIfs are the functions of several criteria that take an area whose numbers they ask for.
func manyIfs() []string { return strings.Fields("SUMIFS AVERAGEIFS MAXIFS MINIFS") }

// P18.1: several criteria.
func TestIfs(t *testing.T) {
	b, a, c := numbers(10, 20, 30, 40, -5), numbers(1, 2, 3, 4, 5), column(text("x"), text("y"), text("X"), text("x"), api.Value{})
	two := append(asked(a, ">1"), asked(c, "x")...)
	want(t, "COUNTIFS", num(2), two...)
	for name, v := range map[string]float64{"SUMIFS": 70, "AVERAGEIFS": 35, "MAXIFS": 40, "MINIFS": 30} {
		want(t, name, num(v), append([]api.Arg{b}, two...)...)
	}
	for name, v := range map[string]float64{"SUMIFS": -5, "AVERAGEIFS": -5, "MAXIFS": -5, "MINIFS": -5} {
		want(t, name, num(v), append([]api.Arg{b}, append(asked(a, ">1"), asked(c, "=")...)...)...)
	}
	want(t, "COUNTIFS", num(1), append(asked(a, ">1"), asked(c, "=")...)...)
	none := append(asked(a, ">1"), asked(c, "z")...)
	want(t, "COUNTIFS", num(0), none...)
	for name, v := range map[string]api.Value{"SUMIFS": num(0), "AVERAGEIFS": fault(api.EDiv), "MAXIFS": num(0), "MINIFS": num(0)} {
		want(t, name, v, append([]api.Arg{b}, none...)...)
		// no numbers at places that meet
		want(t, name, v, append([]api.Arg{column(truth(true), text("5"), text("7"), api.Value{}, num(5))}, two...)...)
		want(t, name, v, append([]api.Arg{missing()}, asked(missing(), "=")...)...)
		want(t, name, v, append([]api.Arg{single(text("5"))}, asked(missing(), "=")...)...)
	}
	want(t, "COUNTIFS", num(1), append(asked(missing(), "="), asked(single(api.Value{}), "<>x")...)...)
}

// P18.1: errors among several criteria: no partner, unlike sizes, the first one of a criterion, then that of a place that meets.
func TestIfsErrors(t *testing.T) {
	b, a := column(num(10), fault(api.ERef), num(30), fault(api.ENull)), numbers(1, 2, 3, 4)
	na, gone := single(fault(api.ENA)), single(fault(api.ECycle))
	for _, name := range manyIfs() {
		want(t, name, fault(api.ERef), append([]api.Arg{b}, asked(a, ">1")...)...)
		want(t, name, fault(api.ENull), append([]api.Arg{b}, asked(a, ">2")...)...)
		want(t, name, num(30), append([]api.Arg{b}, asked(a, "=3")...)...)
		want(t, name, num(30), append([]api.Arg{b}, append(asked(a, ">1"), asked(b, ">10")...)...)...)
		want(t, name, fault(api.ENA), b, a, na)
		want(t, name, fault(api.ENA), b, a, na, a, gone)
		want(t, name, fault(api.ECycle), b, a, single(num(1)), a, gone)
		want(t, name, fault(api.EValue), b, a, numbers(1, 2), a, gone)
		want(t, name, fault(api.EValue), b, a, na, a)
		want(t, name, fault(api.EValue), b, a, single(num(1)), a)
		want(t, name, fault(api.EValue), numbers(1, 2), a, na)
		want(t, name, fault(api.EValue), b, a, na, line(values(1, 2, 3, 4)...), na)
		want(t, name, fault(api.EValue), b, numbers(1, 2, 3), single(num(1)))
		want(t, name, fault(api.EValue), b, numbers(1, 2, 3, 4, 5), single(num(1)))
		want(t, name, fault(api.EValue), b, missing(), single(num(1)))
		want(t, name, fault(api.EValue), missing(), b, single(num(1)))
		// 32 arguments have one without a partner
		want(t, name, fault(api.EValue), slices.Repeat([]api.Arg{single(num(1))}, 32)...)
		want(t, name, num(1), slices.Repeat([]api.Arg{single(num(1))}, 31)...)
	}
	want(t, "COUNTIFS", fault(api.ENA), a, na)
	want(t, "COUNTIFS", fault(api.ENA), a, na, a, gone)
	want(t, "COUNTIFS", fault(api.EValue), a, na, a)
	want(t, "COUNTIFS", fault(api.EValue), a, na, b, na, numbers(1), na)
	want(t, "COUNTIFS", fault(api.EValue), a, numbers(1, 2), a, na)
	want(t, "COUNTIFS", fault(api.EValue), slices.Repeat([]api.Arg{single(num(1))}, 31)...)
	want(t, "COUNTIFS", num(1), slices.Repeat([]api.Arg{single(num(1))}, 32)...)
	want(t, "SUMIFS", fault(api.ENum), append([]api.Arg{numbers(great, great)}, asked(numbers(1, 1), "=1")...)...)
	want(t, "MAXIFS", num(great), append([]api.Arg{numbers(great, great)}, asked(numbers(1, 1), "=1")...)...)
}

// P18.1: drawn areas and criteria, held against the model.
func TestIfsDrawn(t *testing.T) {
	d := draws(6)
	names := append(manyIfs(), "COUNTIF", "SUMIF", "AVERAGEIF", "COUNTIFS")
	for range 12000 {
		name := pick(&d, names...)
		check(t, name, d.arguments(name)...)
	}
	for range 3000 {
		rows, cols := 1+d.below(5), 1+d.below(3)
		var pairs []api.Arg
		for range 1 + d.below(4) {
			pairs = append(pairs, d.area(rows, cols), single(pick(&d, text("<>x"), text("<>1"), text(">0"), text("<>"), text("="), text("<=a"), pick(&d, criteria()...))))
		}
		check(t, "COUNTIFS", pairs...)
		for _, name := range manyIfs() {
			check(t, name, append([]api.Arg{d.area(rows, cols)}, pairs...)...)
		}
		for _, name := range []string{"SUMIF", "AVERAGEIF"} {
			check(t, name, pairs[:2]...)
			check(t, name, append(pairs[:2:2], d.area(1+d.below(6), 1+d.below(4)))...)
		}
	}
}
