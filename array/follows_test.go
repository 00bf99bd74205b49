package array_test

import (
	"fmt"
	"testing"

	"gridiron/api"
	"gridiron/array"
	"gridiron/value"
)

// P16.8: Map2 of arrays of one place is One of Binary, and Map1 likewise, values that are not well formed among them.
func TestMapsOfOne(t *testing.T) {
	d := draws(9)
	all := ops()
	values := append(formed(), malformed()...)
	for range 20000 {
		op, a, b := pick(&d, all...), pick(&d, values...), pick(&d, values...)
		wantMap2(t, op, array.One(a), array.One(b), array.One(array.Binary(op, a, b)))
		wantMap1(t, op, array.One(a), array.One(array.Unary(op, a)))
	}
}

// P16.8: turned twice, an array is as it was.
func TestTurnTwice(t *testing.T) {
	d := draws(10)
	for range 5000 {
		a := d.array(false)
		wantArr(t, "twice "+told(a), array.Turn(array.Turn(a)), a)
	}
	for _, a := range refused() {
		wantArr(t, "twice "+told(a), array.Turn(array.Turn(a)), a)
	}
	for _, size := range [][2]int{{1, 4096}, {4096, 1}, {64, 64}, {3, 1365}} {
		a := api.Arr{Rows: size[0], Cols: size[1], Vals: counted(size[0] * size[1])}
		wantArr(t, "twice "+told(a), array.Turn(array.Turn(a)), a)
	}
}

// P16.8: an array as an argument and back is the array; and an argument that has room in an array, but for Ref and Miss, likewise.
func TestThereAndBack(t *testing.T) {
	d := draws(11)
	for range 5000 {
		a := d.array(true)
		back, is := array.Dense(array.Sparse(a))
		if !is || !sameArr(back, a) {
			t.Errorf("%s came back as %s", told(a), told(back))
		}
		g := d.argument()
		if dense, is := array.Dense(g); is {
			g.Ref, g.Miss = false, false
			wantArg(t, "back", array.Sparse(dense), g)
		}
	}
	for _, size := range [][2]int{{4, 1024}, {4096, 1}, {1, 1024}} {
		a := api.Arr{Rows: size[0], Cols: size[1], Vals: counted(size[0] * size[1])}
		if back, is := array.Dense(array.Sparse(a)); !is || !sameArr(back, a) {
			t.Errorf("%s came back as %s", told(a), told(back))
		}
	}
}

// wantFormed tells whether an array may be.
func wantFormed(t *testing.T, what string, a api.Arr) {
	t.Helper()
	if errno := modelMake(a.Rows, a.Cols, a.Vals); errno != api.OK || len(a.Vals) > 4096 {
		t.Errorf("%s: %s, %d", what, told(a), errno)
	}
}

// P16.9: what operators answer is well formed, whatever they are given, and no more than an array may have.
func TestAnswersFormed(t *testing.T) {
	d := draws(12)
	all := ops()
	values := append(formed(), malformed()...)
	for _, op := range all {
		for _, a := range values {
			if v := array.Unary(op, a); value.Check(v) != api.OK {
				t.Errorf("Unary(%d, %s): %s", op, told(a), told(v))
			}
			b := pick(&d, values...)
			if v := array.Binary(op, a, b); value.Check(v) != api.OK {
				t.Errorf("Binary(%d, %s, %s): %s", op, told(a), told(b), told(v))
			}
		}
	}
	lines := []api.Arr{{Rows: 4096, Cols: 1, Vals: counted(4096)}, {Rows: 1, Cols: 4096, Vals: counted(4096)}, {Rows: 64, Cols: 64, Vals: counted(4096)}}
	for range 3000 {
		op, a, b := pick(&d, all...), d.array(false), d.array(false)
		wantFormed(t, fmt.Sprintf("Map1(%d)", op), array.Map1(op, a))
		wantFormed(t, fmt.Sprintf("Map2(%d)", op), array.Map2(op, a, b))
	}
	for _, op := range all {
		for _, a := range append(refused(), lines...) {
			wantFormed(t, fmt.Sprintf("Map1(%d)", op), array.Map1(op, a))
			wantFormed(t, fmt.Sprintf("Map2(%d)", op), array.Map2(op, a, pick(&d, lines...)))
		}
	}
}

// The chapter's examples.
func TestExamples(t *testing.T) {
	wantBinary(t, api.NPow, num(2), num(10), num(1024))
	wantBinary(t, api.NPow, num(0), num(0), fault(api.ENum))
	wantBinary(t, api.NDiv, num(1), num(0), fault(api.EDiv))
	wantBinary(t, api.NCat, num(1), truth(true), text("1TRUE"))
	wantBinary(t, api.NLt, text("a"), num(5), truth(false))
	wantBinary(t, api.NAdd, text("x"), fault(api.ENA), fault(api.EValue))
	wantMap2(t, api.NAdd, row(nums(1, 2)...), column(nums(10, 20)...), block(2, nums(11, 12, 21, 22)...))
	wantMap2(t, api.NAdd, row(nums(1, 2)...), row(nums(1, 2, 3)...), row(num(2), num(4), fault(api.ENA)))
	a := area(3, 1, at(0, 0, num(1)), at(1, 0, num(2)), at(2, 0, num(3)))
	wantCut(t, a, 0, 0, 1, 5, num(2))
	wantCut(t, a, 0, 0, 5, 0, fault(api.EValue))
}
