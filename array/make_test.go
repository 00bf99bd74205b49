package array_test

import (
	"fmt"
	"math"
	"slices"
	"testing"

	"gridiron/api"
	"gridiron/array"
	"gridiron/value"
)

// P16.1: One is one row and one column with the value, whatever that is.
func TestOne(t *testing.T) {
	for _, v := range append(formed(), malformed()...) {
		wantArr(t, "One("+told(v)+")", array.One(v), api.Arr{Rows: 1, Cols: 1, Vals: []api.Value{v}})
	}
}

// wantMake holds Make and Check against each other and against what is wanted.
func wantMake(t *testing.T, rows, cols int, l []api.Value, want api.Errno) {
	t.Helper()
	what := fmt.Sprintf("%d by %d of %d values", rows, cols, len(l))
	a, errno := array.Make(rows, cols, l)
	wantErrno(t, "Make: "+what, errno, want)
	given := api.Arr{Rows: rows, Cols: cols, Vals: l}
	wantErrno(t, "Check: "+what, array.Check(given), want)
	if want != api.OK {
		given = api.Arr{}
	}
	wantArr(t, "Make: "+what, a, given)
	wantErrno(t, "Check of what Make answers: "+what, array.Check(a), modelMake(a.Rows, a.Cols, a.Vals))
}

// P16.1: every two sizes, with as many values as there are places and with others.
func TestMakeSizes(t *testing.T) {
	sizes := []int{0, 1, -1, 2, 3, 63, 64, 65, 4095, 4096, 4097, 1 << 31, 1 << 32, 1<<32 + 1, 1 << 33, math.MaxInt, math.MaxInt - 1, math.MinInt, math.MinInt + 1}
	for _, rows := range sizes {
		for _, cols := range sizes {
			for _, n := range []int{0, 1, 2, rows*cols - 1, rows * cols, rows*cols + 1} {
				if n >= 0 && n <= 4097 {
					l := counted(n)
					wantMake(t, rows, cols, l, modelMake(rows, cols, l))
				}
			}
		}
	}
}

// P16.1: arrays that may be, and what is wrong by itself.
func TestMake(t *testing.T) {
	six := nums(1, 2, 3, 4, 5, 6)
	wantMake(t, 2, 3, six, api.OK)
	wantMake(t, 3, 2, six, api.OK)
	wantMake(t, 6, 1, six, api.OK)
	wantMake(t, 1, 6, six, api.OK)
	wantMake(t, 1, 1, []api.Value{{}}, api.OK)
	wantMake(t, 4096, 1, counted(4096), api.OK)
	wantMake(t, 1, 4096, counted(4096), api.OK)
	wantMake(t, 64, 64, counted(4096), api.OK)
	wantMake(t, 2, 3, formed()[:6], api.OK)
	wantMake(t, 1, 2, []api.Value{text(full()), fault(api.ELimit)}, api.OK)
	wantMake(t, 0, 3, six, api.ErrArg)
	wantMake(t, 3, 0, six, api.ErrArg)
	wantMake(t, -2, -3, six, api.ErrArg)
	wantMake(t, 2, 3, six[1:], api.ErrArg)
	wantMake(t, 2, 2, six, api.ErrArg)
	wantMake(t, 1, 1, nil, api.ErrArg)
	wantMake(t, 1, 4097, counted(4097), api.ErrLong)
	wantMake(t, 4097, 1, counted(4097), api.ErrLong)
	// products that leave an int, and come round to one that would do
	wantMake(t, 1<<32, 1<<32, nil, api.ErrLong)
	wantMake(t, 1<<62+1, 4, counted(4), api.ErrLong)
	wantMake(t, math.MaxInt, math.MaxInt, counted(1), api.ErrLong)
	wantMake(t, math.MinInt, 2, nil, api.ErrArg)
	wantMake(t, math.MinInt, math.MinInt, nil, api.ErrArg)
}

// P16.1: a value that is not well formed at each place, by itself and with another one behind or ahead of it.
func TestMakeValues(t *testing.T) {
	for _, v := range malformed() {
		for _, at := range []int{0, 7, 14} {
			l := counted(15)
			l[at] = v
			wantMake(t, 3, 5, l, value.Check(v))
			for _, second := range []int{0, 3, 11, 14} {
				for _, w := range []api.Value{long(), odd()} {
					both := slices.Clone(l)
					both[second] = w
					first := both[min(at, second)]
					wantMake(t, 5, 3, both, value.Check(first))
				}
			}
		}
	}
	for _, v := range formed() {
		wantMake(t, 1, 1, []api.Value{v}, api.OK)
	}
}

// P16.1: each two things that may be wrong: sizes below 1, then a product beyond, then too few or too many, then values.
func TestMakeOrder(t *testing.T) {
	bad := []api.Value{long(), odd()}
	wantMake(t, 0, math.MaxInt, nil, api.ErrArg)
	wantMake(t, math.MaxInt, 0, nil, api.ErrArg)
	wantMake(t, -1, 4097, bad, api.ErrArg)
	wantMake(t, 4097, -1, bad, api.ErrArg)
	wantMake(t, 0, 0, bad, api.ErrArg)
	wantMake(t, 0, 1, nil, api.ErrArg)
	wantMake(t, 0, 1, bad[:1], api.ErrArg)
	wantMake(t, 1, 4097, nil, api.ErrLong)
	wantMake(t, 1, 4097, counted(4096), api.ErrLong)
	wantMake(t, 4097, 1, bad[1:], api.ErrLong)
	wantMake(t, 64, 65, bad[1:], api.ErrLong)
	wantMake(t, 1, 1, bad, api.ErrArg)
	wantMake(t, 1, 3, bad, api.ErrArg)
	wantMake(t, 1, 3, bad[:1], api.ErrArg)
	wantMake(t, 1, 2, bad, api.ErrLong)
	wantMake(t, 2, 1, []api.Value{odd(), long()}, api.ErrArg)
}

// P16.1: drawn arrays.
func TestCheckDrawn(t *testing.T) {
	d := draws(1)
	for range 5000 {
		a := d.array(false)
		wantMake(t, a.Rows, a.Cols, a.Vals, modelMake(a.Rows, a.Cols, a.Vals))
	}
}
