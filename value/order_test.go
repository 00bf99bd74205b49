package value_test

import (
	"math"
	"slices"
	"strings"
	"testing"

	"gridiron/api"
	"gridiron/value"
)

func wantOrder(t *testing.T, a, b api.Value, want int) {
	t.Helper()
	if got := value.Compare(a, b); got != want {
		t.Errorf("Compare(%s, %s): %d, want %d", told(a), told(b), got, want)
	}
	if got := value.Compare(b, a); got != -want {
		t.Errorf("Compare(%s, %s): %d, want %d", told(b), told(a), got, -want)
	}
}

// checkOrder holds Compare against the model, both ways about.
func checkOrder(t *testing.T, a, b api.Value) {
	t.Helper()
	wantOrder(t, a, b, modelCompare(a, b))
}

// rising holds each of the values against all others: those of one list are the same, those of a later one stand behind.
func rising(t *testing.T, lists ...[]api.Value) {
	t.Helper()
	for i, list := range lists {
		for _, a := range list {
			for k, other := range lists {
				for _, b := range other {
					want := 0
					if i < k {
						want = -1
					} else if i > k {
						want = 1
					}
					wantOrder(t, a, b, want)
				}
			}
		}
	}
}

func texts(all ...string) []api.Value {
	var out []api.Value
	for _, s := range all {
		out = append(out, value.Text(s))
	}
	return out
}

func nums(all ...float64) []api.Value {
	var out []api.Value
	for _, x := range all {
		out = append(out, value.Num(x))
	}
	return out
}

// P9.4: the chapter's examples.
func TestCompareExamples(t *testing.T) {
	wantOrder(t, value.Num(5), value.Text("5"), -1)
	wantOrder(t, value.Text("a"), value.Text("B"), -1)
	wantOrder(t, value.Text("a"), value.Text("A"), 0)
	wantOrder(t, api.Value{}, value.Text(""), 0)
	wantOrder(t, api.Value{}, value.Num(-1), 1)
	wantOrder(t, value.Bool(true), value.Err(api.ENA), -1)
}

// P9.4: each two kinds, whatever they are of: no kind, numbers, texts, truths, errors.
func TestCompareRanks(t *testing.T) {
	none := []api.Value{{Kind: -1}, {Kind: 5}, {Kind: math.MinInt}, {Kind: math.MaxInt}, {Kind: 7, Num: 3, Text: "x", Yes: true, Err: 2}, {Kind: -7, Num: -3}}
	for _, v := range none {
		for _, other := range none {
			wantOrder(t, v, other, 0)
		}
	}
	groups := [][]api.Value{none, nums(math.NaN(), least, -1, 0, 1, 1e300, most), texts("", "\x00", "0", "z", "\xff"), {value.Bool(false), value.Bool(true)}, {value.Err(math.MinInt), value.Err(-1), value.Err(0), value.Err(1), value.Err(9), value.Err(10), value.Err(math.MaxInt)}}
	for i, group := range groups {
		for _, later := range groups[i+1:] {
			for _, a := range group {
				for _, b := range later {
					wantOrder(t, a, b, -1)
				}
			}
		}
	}
}

// P9.4: the empty value is 0 against numbers, ahead of truths and errors, "" against texts, behind what is of no kind.
func TestCompareEmpty(t *testing.T) {
	for _, empty := range []api.Value{{}, {Num: 7}, {Num: math.NaN()}, {Text: "x", Yes: true, Err: 2}} {
		wantOrder(t, empty, api.Value{}, 0)
		wantOrder(t, empty, empty, 0)
		for _, v := range nums(0, below0) {
			wantOrder(t, empty, v, 0)
		}
		for _, v := range nums(math.SmallestNonzeroFloat64, 1, most) {
			wantOrder(t, empty, v, -1)
		}
		for _, v := range nums(math.NaN(), least, -1, -math.SmallestNonzeroFloat64) {
			wantOrder(t, empty, v, 1)
		}
		wantOrder(t, empty, value.Text(""), 0)
		for _, v := range texts("\x00", "0", "-1", "a", "\xff") {
			wantOrder(t, empty, v, -1)
		}
		for _, v := range []api.Value{value.Bool(false), value.Bool(true), value.Err(1), value.Err(0), value.Err(-1)} {
			wantOrder(t, empty, v, -1)
		}
		for _, kind := range kinds {
			wantOrder(t, empty, api.Value{Kind: kind}, 1)
		}
	}
}

// P9.4: numbers by size, NaNs ahead, whatever their bits are.
func TestCompareNumbers(t *testing.T) {
	tiny := math.SmallestNonzeroFloat64
	rising(t,
		nums(math.NaN(), nan1, nan2, nan3), nums(least), nums(-math.MaxFloat64), nums(-1e21), nums(-10), nums(-9), nums(math.Nextafter(-1, -2)), nums(-1), nums(-tiny),
		nums(0, below0), nums(tiny), nums(2*tiny), nums(0.1), nums(1), nums(math.Nextafter(1, 2)), nums(9), nums(10), nums(1<<53), nums(1<<53+2), nums(math.MaxFloat64), nums(most))
}

// P9.4: texts by the bytes of their large letters: those beyond ASCII stay, a beginning stands ahead.
func TestCompareTexts(t *testing.T) {
	rising(t,
		texts(""), texts("\x00"), texts(" "), texts("\""), texts("0"), texts("10"), texts("9"), texts("@"),
		texts("a", "A"), texts("a\x00", "A\x00"), texts("a b", "A B"), texts("ab", "aB", "Ab", "AB"), texts("abc", "ABC"), texts("abd"), texts("ab\xff", "AB\xff"), texts("aé", "Aé"), texts("b", "B"), texts("z", "Z"),
		// the signs between the large letters and the small ones, and behind them
		texts("["), texts("_"), texts("`"), texts("{"), texts("\x7f"),
		// neither ill-formed bytes nor letters beyond ASCII are anything but their bytes
		texts("\x80"), texts("\xc1"), texts("\xc3"), texts("É"), texts("ß"), texts("é"), texts("\xc4"), texts("ſ"), texts("€"), texts("\xe9"), texts("\xed\xa0\x80"), texts("\uFFFD"), texts("\U0010FFFF"), texts("\xff"), texts("\xffa", "\xffA"))
	long := strings.Repeat("a", api.MaxText+1)
	rising(t, texts(long[1:], strings.ToUpper(long[1:])), texts(long, strings.ToUpper(long)), texts(long+"b", long+"B"))
}

// P9.4: false ahead of true; errors by their codes, those that there are not, too.
func TestCompareTruthsAndErrors(t *testing.T) {
	lists := [][]api.Value{{value.Bool(false)}, {value.Bool(true)}}
	sorted := slices.Clone(codes)
	slices.Sort(sorted)
	for _, code := range sorted {
		lists = append(lists, []api.Value{value.Err(code)})
	}
	rising(t, lists...)
}

// P9.4, R1: all kinds of values against each other; what stands in the field of another kind changes nothing.
func TestCompareAll(t *testing.T) {
	all := clean()
	for i, a := range all {
		for _, b := range all[i:] {
			checkOrder(t, a, b)
		}
		for _, other := range soiled(a) {
			wantOrder(t, a, other, 0)
			for _, b := range all {
				if value.Compare(other, b) != modelCompare(a, b) || value.Compare(b, other) != -modelCompare(a, b) {
					t.Errorf("Compare(%s, %s): not as without the other fields", told(other), told(b))
				}
			}
		}
	}
}

// checkAlike looks at what two values that are the same by Compare have in common (P9.6).
func checkAlike(t *testing.T, a, b api.Value) {
	t.Helper()
	if value.Compare(a, b) != 0 {
		return
	}
	if a.Kind != b.Kind || !value.Same(a, b) && (a.Kind != api.VText || raised(a.Text) != raised(b.Text)) {
		t.Errorf("Compare(%s, %s): 0", told(a), told(b))
	}
}

// P9.6: drawn values, both ways about and through three.
func TestTotalOrder(t *testing.T) {
	d := draws(4)
	var some []api.Value
	for _, v := range clean() {
		if value.Check(v) == api.OK && v.Kind != api.VEmpty {
			some = append(some, v)
		}
	}
	for i := range 150 {
		some = append(some, d.value(1+i%4))
	}
	for _, a := range some {
		wantOrder(t, a, a, 0)
		for _, b := range some {
			checkOrder(t, a, b)
			checkAlike(t, a, b)
		}
	}
	for range 300000 {
		a, b, c := some[d.below(len(some))], some[d.below(len(some))], some[d.below(len(some))]
		if value.Compare(a, b) <= 0 && value.Compare(b, c) <= 0 && value.Compare(a, c) > 0 {
			t.Errorf("%s, %s, %s: each one not above the next, but the first above the last", told(a), told(b), told(c))
		}
	}
	for range 50000 {
		a, b, c := d.value(1+d.below(4)), d.value(1+d.below(4)), d.value(1+d.below(4))
		checkOrder(t, a, b)
		checkAlike(t, a, b)
		if value.Compare(a, b) <= 0 && value.Compare(b, c) <= 0 && value.Compare(a, c) > 0 {
			t.Errorf("%s, %s, %s: each one not above the next, but the first above the last", told(a), told(b), told(c))
		}
	}
}
