package array_test

import (
	"fmt"
	"math"
	"testing"

	"gridiron/api"
	"gridiron/array"
)

func wantMap1(t *testing.T, op int, a, want api.Arr) {
	t.Helper()
	wantArr(t, fmt.Sprintf("Map1(%d, %s)", op, told(a)), array.Map1(op, a), want)
}

func wantMap2(t *testing.T, op int, a, b, want api.Arr) {
	t.Helper()
	wantArr(t, fmt.Sprintf("Map2(%d, %s, %s)", op, told(a), told(b)), array.Map2(op, a, b), want)
}

// refused are arrays that Check refuses.
func refused() []api.Arr {
	out := []api.Arr{
		{}, {Rows: 1, Cols: 1}, {Rows: 0, Cols: 1, Vals: counted(1)}, {Rows: 1, Cols: -1, Vals: counted(1)}, {Rows: 2, Cols: 2, Vals: counted(3)}, {Rows: 1, Cols: 1, Vals: counted(2)},
		{Rows: 1, Cols: 4097, Vals: counted(4097)}, {Rows: math.MaxInt, Cols: math.MaxInt, Vals: counted(1)}, {Rows: math.MinInt, Cols: math.MinInt}, {Rows: 1 << 32, Cols: 1 << 32},
	}
	for _, v := range malformed() {
		out = append(out, one(v), block(2, num(1), num(2), num(3), v))
	}
	return out
}

// P16.4: operators of one value over arrays, place by place.
func TestMap1(t *testing.T) {
	all := row(num(5), text("2"), text("x"), truth(true), api.Value{}, fault(api.ENA))
	wantMap1(t, api.NPlus, all, all)
	wantMap1(t, api.NNeg, all, row(num(-5), num(-2), fault(api.EValue), num(-1), num(0), fault(api.ENA)))
	wantMap1(t, api.NPer, all, row(num(0.05), num(0.02), fault(api.EValue), num(0.01), num(0), fault(api.ENA)))
	wantMap1(t, api.NNeg, block(2, nums(1, 2, 3, 4, 5, 6)...), block(2, nums(-1, -2, -3, -4, -5, -6)...))
	wantMap1(t, api.NNeg, block(3, nums(1, 2, 3, 4, 5, 6)...), block(3, nums(-1, -2, -3, -4, -5, -6)...))
	wantMap1(t, api.NNeg, column(nums(1, 2)...), column(nums(-1, -2)...))
	wantMap1(t, api.NNeg, one(num(1)), one(num(-1)))
	for _, op := range ops() {
		wantMap1(t, op, row(num(1), fault(api.ENA)), modelMap1(op, row(num(1), fault(api.ENA))))
	}
	wantMap1(t, api.NAdd, column(nums(1, 2)...), column(fault(api.EValue), fault(api.EValue)))
}

// P16.4: an array that Check refuses is one EValue.
func TestMapRefused(t *testing.T) {
	bad := one(fault(api.EValue))
	for _, a := range refused() {
		for _, op := range []int{api.NPlus, api.NNeg, api.NPer, api.NAdd, 0} {
			wantMap1(t, op, a, bad)
		}
		for _, op := range []int{api.NPow, api.NAdd, api.NCat, api.NEq, 0} {
			for _, b := range []api.Arr{one(num(1)), one(fault(api.ENA)), block(2, counted(6)...), {Rows: 1, Cols: 4096, Vals: counted(4096)}, a, {}} {
				wantMap2(t, op, a, b, bad)
				wantMap2(t, op, b, a, bad)
			}
		}
	}
	// ahead of more places than there may be
	tall := api.Arr{Rows: 4096, Cols: 1, Vals: counted(4096)}
	wantMap2(t, api.NAdd, tall, row(num(1), odd()), bad)
	wantMap2(t, api.NAdd, row(num(1), long()), tall, bad)
}

// P16.4: one place, rows, columns and blocks with one another.
func TestMap2(t *testing.T) {
	none := fault(api.ENA)
	six := block(2, nums(1, 2, 3, 4, 5, 6)...)
	for _, x := range []struct{ a, b, want api.Arr }{
		{one(num(1)), one(num(2)), one(num(3))},
		{column(nums(1, 2)...), row(nums(10, 20)...), block(2, nums(11, 21, 12, 22)...)},
		{row(nums(1, 2)...), column(nums(10, 20)...), block(2, nums(11, 12, 21, 22)...)},
		{row(nums(1, 2)...), row(nums(1, 2, 3)...), row(num(2), num(4), none)},
		{row(nums(1, 2, 3)...), row(nums(1, 2)...), row(num(2), num(4), none)},
		{column(nums(1, 2)...), column(nums(1, 2, 3)...), column(num(2), num(4), none)},
		{six, one(num(10)), block(2, nums(11, 12, 13, 14, 15, 16)...)},
		{one(num(10)), six, block(2, nums(11, 12, 13, 14, 15, 16)...)},
		{six, row(nums(10, 20, 30)...), block(2, nums(11, 22, 33, 14, 25, 36)...)},
		{six, column(nums(10, 20)...), block(2, nums(11, 12, 13, 24, 25, 26)...)},
		{six, row(nums(10, 20)...), block(2, num(11), num(22), none, num(14), num(25), none)},
		{six, column(nums(10, 20, 30)...), block(3, num(11), num(12), num(13), num(24), num(25), num(26), none, none, none)},
		{six, block(3, nums(1, 2, 3, 4, 5, 6)...), block(3, num(2), num(4), none, num(7), num(9), none, none, none, none)},
		{row(nums(1, 2, 3)...), block(2, nums(1, 2, 3, 4)...), block(2, num(2), num(4), none, num(4), num(6), none)},
		{one(fault(api.ERef)), row(nums(1, 2)...), row(fault(api.ERef), fault(api.ERef))},
		{row(fault(api.ERef), num(1)), row(num(1), fault(api.EDiv), num(1)), row(fault(api.ERef), fault(api.EDiv), none)},
		{row(num(1), num(1)), row(num(1), num(1), fault(api.EDiv)), row(num(2), num(2), none)},
		{row(num(1), num(1), fault(api.EDiv)), row(num(1), num(1)), row(num(2), num(2), fault(api.EDiv))},
	} {
		wantMap2(t, api.NAdd, x.a, x.b, x.want)
	}
	// what stands on the left stays there
	wantMap2(t, api.NCat, row(text("a"), text("b")), column(num(1), num(2)), block(2, text("a1"), text("b1"), text("a2"), text("b2")))
	wantMap2(t, api.NSub, one(num(10)), column(nums(1, 2)...), column(nums(9, 8)...))
	wantMap2(t, api.NLt, row(nums(1, 2, 3)...), one(num(2)), row(truth(true), truth(false), truth(false)))
	wantMap2(t, 0, row(nums(1, 2)...), one(fault(api.ENA)), row(fault(api.EValue), fault(api.EValue)))
}

// P16.4: results of MaxArea places and of more.
func TestMap2Limit(t *testing.T) {
	sized := func(rows, cols int) api.Arr { return api.Arr{Rows: rows, Cols: cols, Vals: counted(rows * cols)} }
	for _, x := range []struct {
		a, b api.Arr
		fits bool
	}{
		{sized(4096, 1), sized(1, 1), true}, {sized(4096, 1), sized(1, 2), false}, {sized(1, 4096), sized(2, 1), false}, {sized(1, 4096), sized(1, 4096), true}, {sized(4096, 1), sized(1, 4096), false},
		{sized(64, 1), sized(1, 64), true}, {sized(65, 1), sized(1, 64), false}, {sized(64, 1), sized(1, 65), false}, {sized(64, 64), sized(64, 64), true}, {sized(64, 64), sized(65, 1), false}, {sized(64, 64), sized(1, 65), false},
		{sized(2048, 2), sized(2, 2048), false}, {sized(2048, 2), sized(2000, 1), true}, {sized(1365, 3), sized(1, 1), true}, {sized(1366, 1), sized(1, 3), false}, {sized(1365, 1), sized(1, 3), true},
	} {
		got := array.Map2(api.NAdd, x.a, x.b)
		rows, cols := max(x.a.Rows, x.b.Rows), max(x.a.Cols, x.b.Cols)
		if !x.fits {
			wantArr(t, fmt.Sprintf("%d by %d", rows, cols), got, one(fault(api.ELimit)))
			continue
		}
		if got.Rows != rows || got.Cols != cols || len(got.Vals) != rows*cols {
			t.Errorf("%d by %d of %d values, want %d by %d", got.Rows, got.Cols, len(got.Vals), rows, cols)
			continue
		}
		for _, place := range [][2]int{{0, 0}, {rows - 1, 0}, {0, cols - 1}, {rows - 1, cols - 1}, {rows / 2, cols / 3}} {
			r, c := place[0], place[1]
			want := modelBinary(api.NAdd, modelAt(x.a, r, c), modelAt(x.b, r, c))
			wantValue(t, fmt.Sprintf("%d by %d at %d, %d", rows, cols, r, c), got.Vals[r*cols+c], want)
		}
	}
}

// P16.4: drawn arrays, whole and not.
func TestMapDrawn(t *testing.T) {
	d := draws(5)
	all := ops()
	for range 4000 {
		a, b, op := d.array(false), d.array(false), pick(&d, all...)
		wantMap1(t, op, a, modelMap1(op, a))
		wantMap2(t, op, a, b, modelMap2(op, a, b))
	}
}
