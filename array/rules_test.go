package array_test

import (
	"fmt"
	"math"
	"slices"
	"strings"
	"sync"
	"testing"
	"unsafe"

	"gridiron/api"
	"gridiron/array"
)

func extremes() []int {
	return []int{math.MinInt, math.MinInt + 1, -1, 0, 1, 2, 1 << 31, 1 << 32, math.MaxInt - 1, math.MaxInt}
}

// R1: every call ends and none panics, whatever sizes, places, values and operators it is given.
func TestNoPanic(t *testing.T) {
	values := append(malformed(), formed()...)
	for i, n := range extremes() {
		for j, m := range extremes() {
			l := values[(i*7+j)%len(values):][:min(i+j, 3)]
			a := api.Arr{Rows: n, Cols: m, Vals: l}
			g := api.Arg{Ref: i%2 > 0, Miss: j%3 == 0, Rows: n, Cols: m}
			for k, v := range l {
				g.Cells = append(g.Cells, at(extremes()[(i+k)%10], extremes()[(j+k)%10], v))
			}
			anything(t, a, g)
			g.Miss, g.Rows, g.Cols = false, 2, 1
			anything(t, a, g)
		}
	}
}

// anything asks each call about an array and an argument; beside a false and an error all else is zero.
func anything(t *testing.T, a api.Arr, g api.Arg) {
	t.Helper()
	out, errno := array.Make(a.Rows, a.Cols, a.Vals)
	if errno != array.Check(a) || errno != api.OK && !sameArr(out, api.Arr{}) {
		t.Errorf("Make(%s): %s, %d", told(a), told(out), errno)
	}
	out, is := array.Dense(g)
	if is && array.CheckArg(g) != api.OK || !is && !sameArr(out, api.Arr{}) {
		t.Errorf("Dense(%s): %s, %v", told(g), told(out), is)
	}
	array.Turn(a)
	array.Single(g)
	if errno != api.OK && !sameArg(array.Sparse(a), api.Arg{}) {
		t.Errorf("Sparse(%s): %s", told(a), told(array.Sparse(a)))
	}
	for i, n := range extremes() {
		array.Map1(n, a)
		array.Map2(api.NAdd, a, api.Arr{Rows: n, Cols: 1, Vals: a.Vals})
		for _, m := range extremes() {
			array.At(a, n, m)
			array.Cut(g, n, m, extremes()[(i+3)%10], n)
			array.Cut(g, m, m, n, n)
		}
	}
}

// R1: lists that are long, and texts that are.
func TestLong(t *testing.T) {
	all := counted(1 << 20)
	wantErrno(t, "a long list", array.Check(api.Arr{Rows: 1 << 10, Cols: 1 << 10, Vals: all}), api.ErrLong)
	g := api.Arg{Rows: 1 << 10, Cols: 1 << 10}
	for i, v := range all {
		g.Cells = append(g.Cells, at(i>>10, i&1023, v))
	}
	wantErrno(t, "an area of which all is told", array.CheckArg(g), api.OK)
	if _, is := array.Dense(g); is {
		t.Error("Dense of a long one")
	}
	g.Rows, g.Cols = 1<<20, 1
	for i := range g.Cells {
		g.Cells[i].Row, g.Cells[i].Col = i, 0
	}
	wantValue(t, "a long column", array.Cut(g, 5, 0, 5+1<<20-1, 0), num(1<<20))
	texts := api.Arr{Rows: 1, Cols: 4096}
	for range 4096 {
		texts.Vals = append(texts.Vals, text(full()[1:]))
	}
	both := array.Map2(api.NCat, texts, one(text("b")))
	if len(both.Vals) != 4096 || both.Vals[4095] != text(full()[1:]+"b") {
		t.Error("Map2 of long texts")
	}
}

// roomy is a list with something behind its end.
func roomy[T any](l []T, behind T) []T {
	return append(append(make([]T, 0, len(l)+2), l...), behind, behind)[:len(l)]
}

// behind tells whether it still stands behind a list's end.
func behind[T any](l []T, is func(T) bool) bool {
	room := l[len(l) : len(l)+2]
	return is(room[0]) && is(room[1])
}

// ask asks each call about two arrays and an argument, and answers what they answer.
func ask(a, b api.Arr, g api.Arg, op int) ([]api.Arr, api.Arg) {
	made, _ := array.Make(a.Rows, a.Cols, a.Vals)
	dense, _ := array.Dense(g)
	array.Check(a)
	array.CheckArg(g)
	array.Single(g)
	array.Cut(g, 0, 0, 1, 0)
	array.At(a, 1, 1)
	out := []api.Arr{made, dense, array.Map1(op, a), array.Map2(op, a, b), array.Map2(op, b, a), array.Turn(a), array.Turn(array.Turn(b))}
	for _, v := range a.Vals {
		out = append(out, array.One(v), array.One(array.Unary(op, v)), array.One(array.Binary(op, v, v)))
	}
	return out, array.Sparse(a)
}

// spoil puts something else into a list and into the room behind its end, and tells whether that room was empty.
func spoil[T comparable](l []T, with T) bool {
	var zero T
	room := l[:cap(l)]
	empty := !slices.ContainsFunc(room[len(l):], func(x T) bool { return x != zero })
	for i := range room {
		room[i] = with
	}
	return empty
}

// R3: what is handed in is left as it is, what lies behind a list's end, too; and what is answered is nobody else's.
func TestLeftAsItIs(t *testing.T) {
	d := draws(13)
	mark := text("behind")
	marked := func(v api.Value) bool { return v == mark }
	for range 1000 {
		a, b, g, op := d.array(false), d.array(false), d.argument(), pick(&d, ops()...)
		given, other, arg := a, b, g
		given.Vals, other.Vals, arg.Cells = roomy(a.Vals, mark), roomy(b.Vals, mark), roomy(g.Cells, at(1, 1, mark))
		answers, sparse := ask(given, other, arg, op)
		again, sparseAgain := ask(given, other, arg, op)
		for _, out := range answers {
			if !spoil(out.Vals, text("spoiled")) {
				t.Errorf("something lies behind %s", told(out))
			}
		}
		fresh, _ := ask(a, b, g, op)
		for i := range again {
			wantArr(t, "an answer beside one that was spoiled", again[i], fresh[i])
		}
		if !spoil(sparse.Cells, at(9, 9, text("spoiled"))) || !sameArg(sparseAgain, modelSparse(a)) {
			t.Errorf("%s has become another argument", told(sparseAgain))
		}
		wantArr(t, "what was handed in", given, a)
		wantArr(t, "what was handed in", other, b)
		wantArg(t, "what was handed in", arg, g)
		if !behind(given.Vals, marked) || !behind(other.Vals, marked) || !behind(arg.Cells, func(p api.Place) bool { return p == at(1, 1, mark) }) {
			t.Errorf("%s, %s and %s have something else behind their ends", told(given), told(other), told(arg))
		}
	}
}

// lent are texts that change when their bytes do.
type lent struct{ bytes []byte }

func (l *lent) text(s string) api.Value {
	at := len(l.bytes)
	l.bytes = append(l.bytes, s...)
	return text(unsafe.String(&l.bytes[at], len(s)))
}

// R3: no text of an answer lies in what was handed in.
func TestTextsAreNew(t *testing.T) {
	l := &lent{bytes: make([]byte, 0, 1<<16)}
	a := block(2, l.text("abc"), l.text("12"), num(1), l.text("x"))
	wrong := api.Arr{Rows: 3, Cols: 2, Vals: []api.Value{l.text("wrong")}}
	g := area(2, 1, at(0, 0, l.text("told")), at(1, 0, l.text("more")))
	single := area(1, 1, at(0, 0, l.text("single")))
	empty := one(text(""))
	dense, _ := array.Dense(g)
	made, _ := array.Make(2, 2, a.Vals)
	got := []api.Arr{dense, made, array.Turn(a), array.Turn(wrong), array.One(a.Vals[0]), array.Map1(api.NPlus, a), array.Map2(api.NCat, a, empty), array.Map2(api.NCat, empty, a), array.Map2(api.NCat, a, a)}
	for _, v := range []api.Value{array.At(a, 0, 0), array.At(wrong, 0, 0), array.Single(single), array.Cut(single, 0, 0, 0, 0), array.Cut(g, 0, 0, 1, 0), array.Unary(api.NPlus, a.Vals[3]), array.Binary(api.NCat, a.Vals[3], text("")), array.Binary(api.NCat, api.Value{}, a.Vals[3])} {
		got = append(got, one(v))
	}
	sparse := array.Sparse(a)
	if cap(l.bytes) != 1<<16 {
		t.Fatal("what was lent lies elsewhere")
	}
	said := func() string {
		out := told(sparse)
		for _, x := range got {
			out += told(x)
		}
		return strings.Clone(out)
	}
	before := said()
	for i := range l.bytes {
		l.bytes[i] = '#'
	}
	if after := said(); after != before {
		t.Errorf("answers change with what was handed in: %s, then %s", before, after)
	}
}

// R4: many at once answer what one does.
func TestAtOnce(t *testing.T) {
	d := draws(14)
	var arrays []api.Arr
	var args []api.Arg
	for range 60 {
		arrays, args = append(arrays, d.array(false)), append(args, d.argument())
	}
	var all sync.WaitGroup
	for range 8 {
		all.Go(func() {
			for i, a := range arrays {
				for op := api.NPlus; op <= api.NGe; op++ {
					wantMap1(t, op, a, modelMap1(op, a))
					wantMap2(t, op, a, arrays[(i+op)%60], modelMap2(op, a, arrays[(i+op)%60]))
				}
				want, is := modelDense(args[i])
				wantDense(t, args[i], want, is)
				wantTurn(t, a, modelTurn(a))
				wantCut(t, args[i], 0, 0, 1, 1, modelCut(args[i], 0, 0, 1, 1))
				wantErrno(t, fmt.Sprint(i), array.CheckArg(args[i]), modelArg(args[i]))
			}
		})
	}
	all.Wait()
}
