package array_test

import (
	"testing"

	"gridiron/api"
	"gridiron/array"
)

func wantTurn(t *testing.T, a, want api.Arr) {
	t.Helper()
	wantArr(t, "Turn("+told(a)+")", array.Turn(a), want)
}

// P16.7: rows become columns.
func TestTurn(t *testing.T) {
	wantTurn(t, block(2, nums(1, 2, 3, 4, 5, 6)...), block(3, nums(1, 4, 2, 5, 3, 6)...))
	wantTurn(t, block(3, nums(1, 2, 3, 4, 5, 6)...), block(2, nums(1, 3, 5, 2, 4, 6)...))
	wantTurn(t, block(2, nums(1, 2, 3, 4)...), block(2, nums(1, 3, 2, 4)...))
	wantTurn(t, row(num(1), text("a"), api.Value{}, fault(api.ENA), truth(true)), column(num(1), text("a"), api.Value{}, fault(api.ENA), truth(true)))
	wantTurn(t, column(nums(1, 2, 3)...), row(nums(1, 2, 3)...))
	for _, v := range formed() {
		wantTurn(t, one(v), one(v))
	}
	wantTurn(t, api.Arr{Rows: 1, Cols: 4096, Vals: counted(4096)}, api.Arr{Rows: 4096, Cols: 1, Vals: counted(4096)})
	wantTurn(t, api.Arr{Rows: 4, Cols: 1024, Vals: counted(4096)}, modelTurn(api.Arr{Rows: 4, Cols: 1024, Vals: counted(4096)}))
}

// P16.7: an array that Check refuses is left as it is.
func TestTurnRefused(t *testing.T) {
	for _, a := range refused() {
		wantTurn(t, a, a)
	}
	wide := api.Arr{Rows: 3, Cols: 2000, Vals: counted(6000)}
	wantTurn(t, wide, wide)
	wantTurn(t, api.Arr{Rows: 3, Cols: 2, Vals: counted(5)}, api.Arr{Rows: 3, Cols: 2, Vals: counted(5)})
}

// P16.7: drawn arrays.
func TestTurnDrawn(t *testing.T) {
	d := draws(8)
	for range 5000 {
		a := d.array(false)
		wantTurn(t, a, modelTurn(a))
	}
}
