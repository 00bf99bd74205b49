package array_test

import (
	"fmt"
	"math"
	"testing"

	"gridiron/api"
	"gridiron/array"
)

func wantAt(t *testing.T, a api.Arr, row, col int, want api.Value) {
	t.Helper()
	wantValue(t, fmt.Sprintf("At(%s, %d, %d)", told(a), row, col), array.At(a, row, col), want)
}

// P16.2: each place of an array.
func TestAt(t *testing.T) {
	six := block(2, nums(1, 2, 3, 4, 5, 6)...)
	for i := range 6 {
		wantAt(t, six, i/3, i%3, num(float64(i+1)))
	}
	for _, place := range [][2]int{{-1, 0}, {0, -1}, {2, 0}, {0, 3}, {1, 3}, {2, 3}, {math.MaxInt, 0}, {0, math.MaxInt}, {math.MinInt, 0}, {0, math.MinInt}, {math.MaxInt, math.MaxInt}, {1, 1 << 62}, {1 << 62, 1}} {
		wantAt(t, six, place[0], place[1], fault(api.ENA))
	}
}

// P16.2: the one row or column stands in all of them, above and below 0, too.
func TestAtRepeats(t *testing.T) {
	lines := []int{math.MinInt, -2, -1, 0, 1, 2, 3, math.MaxInt - 1, math.MaxInt}
	for _, r := range lines {
		for _, c := range lines {
			wantAt(t, one(num(7)), r, c, num(7))
			want := fault(api.ENA)
			if c >= 0 && c < 3 {
				want = num(float64(c + 1))
			}
			wantAt(t, row(nums(1, 2, 3)...), r, c, want)
			want = fault(api.ENA)
			if r >= 0 && r < 3 {
				want = num(float64(r + 1))
			}
			wantAt(t, column(nums(1, 2, 3)...), r, c, want)
		}
	}
}

// P16.2: an array whose values are not as many as its places has none of them.
func TestAtTooFew(t *testing.T) {
	for _, rows := range []int{math.MinInt, -3, -1, 0, 1, 2, 3, 1 << 32, math.MaxInt} {
		for _, cols := range []int{math.MinInt, -2, -1, 0, 1, 2, 1 << 32, math.MaxInt} {
			for n := range 8 {
				a := api.Arr{Rows: rows, Cols: cols, Vals: counted(n)}
				for _, place := range [][2]int{{0, 0}, {1, 0}, {0, 1}, {2, 1}, {-1, -1}, {math.MaxInt, math.MaxInt}, {math.MinInt, 0}} {
					wantAt(t, a, place[0], place[1], modelAt(a, place[0], place[1]))
				}
			}
		}
	}
	wantAt(t, api.Arr{}, 0, 0, fault(api.ENA))
	wantAt(t, api.Arr{Rows: 1, Cols: 1}, 0, 0, fault(api.ENA))
	wantAt(t, api.Arr{Rows: 1, Cols: 1, Vals: counted(2)}, 0, 0, fault(api.ENA))
	wantAt(t, api.Arr{Rows: 2, Cols: 2, Vals: counted(3)}, 0, 0, fault(api.ENA))
	wantAt(t, api.Arr{Rows: 2, Cols: 2, Vals: counted(5)}, 1, 1, fault(api.ENA))
	wantAt(t, api.Arr{Rows: -1, Cols: -1, Vals: counted(1)}, 0, 0, fault(api.ENA))
	wantAt(t, api.Arr{Rows: 1 << 32, Cols: 1 << 32}, 0, 0, fault(api.ENA))
}

// P16.2: of any array: of more places than an array may have, and of values that are not well formed.
func TestAtOfAny(t *testing.T) {
	wide := api.Arr{Rows: 100, Cols: 100, Vals: counted(10000)}
	wantAt(t, wide, 99, 99, num(10000))
	wantAt(t, wide, 41, 1, num(4102))
	wantAt(t, wide, 100, 0, fault(api.ENA))
	for _, v := range append(malformed(), formed()...) {
		wantAt(t, one(v), 5, 5, v)
		wantAt(t, row(num(1), v), 5, 1, v)
		wantAt(t, row(num(1), v), 5, 0, num(1))
	}
}

// P16.2: drawn arrays, places within and around them.
func TestAtDrawn(t *testing.T) {
	d := draws(3)
	for range 3000 {
		a := d.array(false)
		for range 10 {
			r, c := d.below(7)-1, d.below(7)-1
			wantAt(t, a, r, c, modelAt(a, r, c))
		}
	}
}
