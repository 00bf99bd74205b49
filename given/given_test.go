package given_test

import (
	"math"
	"slices"
	"testing"

	"gridiron/api"
	"gridiron/given"
)

func num(x float64) api.Value { return api.Value{Kind: api.VNum, Num: x} }

func text(s string) api.Value { return api.Value{Kind: api.VText, Text: s} }

func truth(yes bool) api.Value { return api.Value{Kind: api.VBool, Yes: yes} }

func fault(code int) api.Value { return api.Value{Kind: api.VErr, Err: code} }

// row is an area of one row; what is empty is not told.
func row(l ...api.Value) api.Arg {
	a := api.Arg{Rows: 1, Cols: len(l)}
	for i, v := range l {
		if v.Kind != api.VEmpty {
			a.Cells = append(a.Cells, api.Place{Col: i, Val: v})
		}
	}
	return a
}

func refer(a api.Arg) api.Arg {
	a.Ref = true
	return a
}

func wantValue(t *testing.T, what string, got, want api.Value) {
	t.Helper()
	if got != want || math.Signbit(got.Num) != math.Signbit(want.Num) {
		t.Errorf("%s: %v, want %v", what, got, want)
	}
}

// R7: as many as a function takes, all of which may be.
func TestFit(t *testing.T) {
	one, wrong := row(num(1)), api.Arg{Rows: 1, Cols: 1, Cells: []api.Place{{Val: fault(10)}}}
	for n := range 6 {
		l := slices.Repeat([]api.Arg{one}, n)
		for least := range 6 {
			for most := range 6 {
				if is := given.Fit(l, least, most); is != (least <= n && n <= most) {
					t.Errorf("%d of %d to %d: %v", n, least, most, is)
				}
			}
		}
		for i := range l {
			spoiled := slices.Clone(l)
			for _, a := range []api.Arg{wrong, {}, {Rows: 1}, {Miss: true, Rows: 1, Cols: 2}, row(num(math.NaN())), row(num(1), text("\xff"))} {
				spoiled[i] = a
				if given.Fit(spoiled, 0, 9) {
					t.Errorf("%v of %d may be", a, n)
				}
			}
			spoiled[i] = given.Missing()
			if !given.Fit(spoiled, n, n) {
				t.Errorf("one that was left out may not be")
			}
		}
	}
}

// R7: single values as numbers, whole numbers and texts.
func TestSingles(t *testing.T) {
	for _, x := range []struct {
		a                    api.Arg
		number, whole, texts api.Value
	}{
		{row(num(2.5)), num(2.5), num(2), text("2.5")}, {refer(row(num(-2.5))), num(-2.5), num(-3), text("-2.5")}, {row(num(0.5)), num(0.5), num(0), text("0.5")},
		{row(num(0x1p53)), num(0x1p53), num(0x1p53), text("9007199254740992")}, {row(num(-0x1p53)), num(-0x1p53), num(-0x1p53), text("-9007199254740992")},
		{row(num(0x1p53 + 2)), num(0x1p53 + 2), fault(api.ENum), text("9007199254740994")}, {row(num(-0x1p53 - 2)), num(-0x1p53 - 2), fault(api.ENum), text("-9007199254740994")}, {row(num(1e300)), num(1e300), fault(api.ENum), text("1E300")},
		{row(num(-math.SmallestNonzeroFloat64)), num(-math.SmallestNonzeroFloat64), num(-1), text("-5E-324")},
		{row(text("-1.5")), num(-1.5), num(-2), text("-1.5")}, {row(text("x")), fault(api.EValue), fault(api.EValue), text("x")}, {row(text("")), fault(api.EValue), fault(api.EValue), text("")}, {row(truth(true)), num(1), num(1), text("TRUE")}, {row(truth(false)), num(0), num(0), text("FALSE")},
		{row(api.Value{}), num(0), num(0), text("")}, {refer(row(api.Value{})), num(0), num(0), text("")}, {given.Missing(), num(0), num(0), text("")},
		{row(fault(api.ENA)), fault(api.ENA), fault(api.ENA), fault(api.ENA)}, {row(num(1), num(2)), fault(api.EValue), fault(api.EValue), fault(api.EValue)}, {row(fault(api.ENA), fault(api.ENA)), fault(api.EValue), fault(api.EValue), fault(api.EValue)}, {api.Arg{}, fault(api.EValue), fault(api.EValue), fault(api.EValue)},
	} {
		wantValue(t, "Number", given.Number(x.a), x.number)
		wantValue(t, "Whole", given.Whole(x.a), x.whole)
		wantValue(t, "Text", given.Text(x.a), x.texts)
	}
}

// R7: what stands instead of an empty value, and of none else.
func TestOr(t *testing.T) {
	or := given.Or(given.Whole, num(7))
	for _, a := range []api.Arg{given.Missing(), row(api.Value{}), refer(row(api.Value{}))} {
		wantValue(t, "Or", or(a), num(7))
		wantValue(t, "Or", given.Or(given.Text, text("."))(a), text("."))
	}
	for _, a := range []api.Arg{row(num(2.5)), row(num(0)), row(text("")), row(text("3")), row(truth(false)), row(fault(api.ENA)), row(num(1), num(2)), row(api.Value{}, api.Value{}), row(num(1e300)), {}} {
		wantValue(t, "Or", or(a), given.Whole(a))
	}
}

// wantNumbers asks for the numbers of some arguments, or for the error beside which there are none.
func wantNumbers(t *testing.T, want []float64, wrong api.Value, args ...api.Arg) {
	t.Helper()
	l, v, is := given.Numbers(args...)
	if !slices.Equal(l, want) || v != wrong || is != (wrong == api.Value{}) {
		t.Errorf("Numbers of %v: %v, %v, %v", args, l, v, is)
	}
}

// R7: the numbers of arguments.
func TestNumbers(t *testing.T) {
	none := api.Value{}
	mixed := row(num(3), text("4"), truth(true), none, num(5))
	wantNumbers(t, nil, none)
	wantNumbers(t, nil, none, given.Missing(), refer(given.Missing()))
	wantNumbers(t, []float64{3, 5}, none, mixed)
	wantNumbers(t, []float64{3, 5, 3, 5, 1}, none, refer(mixed), mixed, given.Missing(), row(num(1)))
	wantNumbers(t, []float64{1, 2, 0, 1, 0}, none, row(num(1)), row(text("2")), row(none), row(truth(true)), row(truth(false)))
	wantNumbers(t, []float64{1}, none, refer(row(num(1))), refer(row(text("2"))), refer(row(none)), refer(row(truth(true))))
	wantNumbers(t, []float64{1}, none, api.Arg{Rows: 2, Cols: 1, Cells: []api.Place{{Row: 1, Val: num(1)}}})
	wantNumbers(t, nil, none, api.Arg{Rows: 2, Cols: 1, Cells: []api.Place{{Row: 1, Val: text("1")}}})
	wantNumbers(t, nil, fault(api.EValue), row(num(1)), row(text("x")), row(fault(api.ENA)))
	wantNumbers(t, nil, fault(api.ENA), row(num(1)), row(num(2), fault(api.ENA), fault(api.ERef)), row(text("x")))
	wantNumbers(t, nil, fault(api.ENA), refer(row(fault(api.ENA))))
	wantNumbers(t, nil, fault(api.ENA), row(fault(api.ENA)))
}

// R3: the arguments stay as they are, and the numbers are nobody else's.
func TestNumbersAreNew(t *testing.T) {
	a := row(num(1), num(2), num(3))
	first, _, _ := given.Numbers(a)
	for i := range first[:cap(first)] {
		first[:cap(first)][i] = 9
	}
	wantNumbers(t, []float64{1, 2, 3}, api.Value{}, a)
}

// R7: the places among which an argument's numbers are.
func TestCounting(t *testing.T) {
	mixed := row(num(3), text("4"), truth(true), api.Value{}, fault(api.ENA))
	for _, x := range []struct {
		a    api.Arg
		want []api.Place
	}{
		{mixed, mixed.Cells}, {refer(mixed), mixed.Cells}, {given.Missing(), nil}, {refer(given.Missing()), nil}, {row(api.Value{}, api.Value{}), nil},
		{row(num(3)), []api.Place{{Val: num(3)}}}, {row(text("4")), []api.Place{{Val: num(4)}}}, {row(truth(true)), []api.Place{{Val: num(1)}}}, {row(api.Value{}), []api.Place{{Val: num(0)}}}, {row(text("x")), []api.Place{{Val: fault(api.EValue)}}}, {row(fault(api.ENA)), []api.Place{{Val: fault(api.ENA)}}},
		{refer(row(text("4"))), []api.Place{{Val: text("4")}}}, {refer(row(api.Value{})), nil},
		{api.Arg{Rows: 2, Cols: 1, Cells: []api.Place{{Row: 1, Val: text("4")}}}, []api.Place{{Row: 1, Val: text("4")}}},
	} {
		if got := given.Counting(x.a); !slices.Equal(got, x.want) {
			t.Errorf("Counting of %v: %v, want %v", x.a, got, x.want)
		}
	}
}
