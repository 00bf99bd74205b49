package numfmt_test

import (
	"math"
	"slices"
	"testing"

	"gridiron/api"
	"gridiron/numfmt"
)

func wantPick(t *testing.T, l []api.Format, at int, v api.Value, want int) {
	t.Helper()
	if got := numfmt.Pick(l, at, v); got != want {
		t.Errorf("Pick(%s, %d, %s): %d, want %d", told(l), at, told(v), got, want)
	}
	if model := modelPick(l, at, v); model != want {
		t.Errorf("the model of Pick(%s, %d, %s): %d, want %d", told(l), at, told(v), model, want)
	}
}

// mapped is a list of so many formats, of which the first has conditions.
func mapped(many int, maps ...api.Map) []api.Format {
	l := make([]api.Format, many)
	l[0].Maps = maps
	return l
}

// P10.3: what is no place of the list is answered as it is.
func TestPickNoPlace(t *testing.T) {
	l := mapped(3, api.Map{Op: api.NEq, Value: 1, To: 2})
	for _, at := range []int{math.MinInt, -2, -1, 3, 4, 256, 1 << 32, math.MaxInt} {
		wantPick(t, l, at, num(1), at)
		wantPick(t, nil, at, num(1), at)
	}
	wantPick(t, nil, 0, num(1), 0)
	wantPick(t, []api.Format{}, 0, num(1), 0)
	wantPick(t, l[:1:3], 1, num(1), 1)
	wantPick(t, l, 0, num(1), 2)
	wantPick(t, l, 1, num(1), 1)
	wantPick(t, l, 2, num(1), 2)
}

// P10.3: a value that is no number has no other format; one that is a number has, well formed or not.
func TestPickKinds(t *testing.T) {
	for op := api.NEq; op <= api.NGe; op++ {
		for _, x := range []float64{-1, 0, 1} {
			l := mapped(2, api.Map{Op: op, Value: x, To: 1})
			for _, v := range []api.Value{{}, text(""), text("0"), text("1"), truth(true), truth(false), fault(1), fault(9), fault(0), {Kind: -1}, {Kind: 5}, {Kind: math.MaxInt}, {Kind: math.MinInt}, {Num: x}, {Kind: api.VText, Num: x}, {Kind: api.VErr, Num: x}, {Kind: 1 << 32, Num: x}} {
				wantPick(t, l, 0, v, 0)
			}
		}
	}
	l := mapped(2, api.Map{Op: api.NEq, Value: 5, To: 1})
	for _, v := range []api.Value{num(5), {Kind: api.VNum, Num: 5, Text: "x"}, {Kind: api.VNum, Num: 5, Yes: true, Err: 3}} {
		wantPick(t, l, 0, v, 1)
	}
}

// P10.3: each Op, below, at and above Value; a NaN stands below all, as value.Compare has it, and -0 is 0.
func TestPickOps(t *testing.T) {
	//                below, at, above
	holds := map[int]string{api.NEq: ".y.", api.NNe: "y.y", api.NLt: "y..", api.NLe: "yy.", api.NGt: "..y", api.NGe: ".yy"}
	check := func(op int, x, y float64, place int) {
		t.Helper()
		want := 0
		if row := holds[op]; row != "" && row[place] == 'y' {
			want = 1
		}
		wantPick(t, mapped(2, api.Map{Op: op, Value: y, To: 1}), 0, num(x), want)
	}
	nan := math.NaN()
	for _, op := range []int{math.MinInt, -1, 0, 16, 17, 18, 19, 20, 21, 22, 23, 24, 25, 256 + 18, math.MaxInt} {
		for _, y := range []float64{0, 1, -1, 0.1, -2.5, 1e300, tiny} {
			for place, x := range []float64{math.Nextafter(y, least), y, math.Nextafter(y, most)} {
				check(op, x, y, place)
			}
			check(op, least, y, 0)
			check(op, nan, y, 0)
			check(op, most, y, 2)
			check(op, y, nan, 2)
		}
		check(op, below0, 0, 1)
		check(op, 0, below0, 1)
		check(op, nan, nan, 1)
		check(op, math.Float64frombits(0xFFF8000000000007), nan, 1)
		check(op, nan, least, 0)
		check(op, most, most, 1)
	}
}

// P10.3: the first condition that holds counts alone, even if it leads nowhere; those of what is picked are not asked.
func TestPickOrder(t *testing.T) {
	lt := func(x float64, to int) api.Map { return api.Map{Op: api.NLt, Value: x, To: to} }
	l := mapped(4, lt(0, 1), lt(10, 2), lt(100, 3))
	for x, want := range map[float64]int{-1: 1, 0: 2, 9: 2, 10: 3, 99: 3, 100: 0, 1e9: 0} {
		wantPick(t, l, 0, num(x), want)
	}
	wantPick(t, mapped(4, lt(0, 3), lt(0, 2)), 0, num(-1), 3)
	wantPick(t, mapped(4, lt(0, 0), lt(0, 2)), 0, num(-1), 0)
	wantPick(t, mapped(4, api.Map{Op: 17, To: 3}, api.Map{Op: 24, To: 3}, lt(0, 2)), 0, num(-1), 2)
	for _, to := range []int{math.MinInt, -1, 4, 5, 256, math.MaxInt} {
		wantPick(t, mapped(4, lt(0, to)), 0, num(-1), 0)
		wantPick(t, mapped(4, lt(0, to), lt(0, 2)), 0, num(-1), 0)
		wantPick(t, mapped(4, lt(-5, to), lt(0, 2)), 0, num(-1), 2)
	}
	chain := []api.Format{{Maps: []api.Map{lt(0, 1)}}, {Maps: []api.Map{lt(0, 2)}}, {Maps: []api.Map{lt(0, 0)}}}
	for at, want := range []int{1, 2, 0} {
		wantPick(t, chain, at, num(-1), want)
		wantPick(t, chain, at, num(1), at)
	}
}

// P10.3: conditions are asked of a format that Check refuses, and beyond as many as there may be.
func TestPickOfRefused(t *testing.T) {
	l := mapped(2, slices.Repeat([]api.Map{{Op: api.NLt, Value: 0, To: 1}}, 9)...)
	l[0].Maps[8] = api.Map{Op: api.NGt, Value: 5, To: 1}
	l[0].Kind, l[0].Whole = 99, true
	wantPick(t, l, 0, num(-1), 1)
	wantPick(t, l, 0, num(6), 1)
	wantPick(t, l, 0, num(5), 0)
	wantPick(t, mapped(2, api.Map{Op: api.NGt, Value: least, To: 1}), 0, num(-1), 1)
}

// P10.3: drawn lists and values, held against the model.
func TestPickDrawn(t *testing.T) {
	d := draws(31)
	other := 0
	for range 30000 {
		l := d.formats(true)
		at := d.below(len(l)+2) - 1
		v := d.value()
		want := modelPick(l, at, v)
		wantPick(t, l, at, v, want)
		if want != at {
			other++
		}
	}
	if other < 1000 {
		t.Errorf("only %d were picked by a condition", other)
	}
}
