package fnmath_test

import (
	"math"
	"slices"
	"strings"
	"sync"
	"testing"
	"unsafe"

	"gridiron/api"
	"gridiron/fnmath"
)

// R1: every call ends and none panics, whatever it is given.
func TestNoPanic(t *testing.T) {
	names := append(all(), "", "SU", "sum", strings.Repeat("X", 1<<20))
	sizes := []int{math.MinInt, -1, 0, 1, 2, 1 << 31, 1 << 32, math.MaxInt}
	values := []api.Value{{}, num(nan), num(most), num(-most), num(below0), num(1), text("\xff"), fault(0), fault(math.MinInt), {Kind: math.MaxInt}, {Kind: math.MinInt, Num: nan}}
	envs := []api.Env{{}, {Now: nan, Draws: just(nan, most)}, {Now: -most, Draws: just(-most)}}
	for _, name := range names {
		fnmath.Arity(name)
		for i, rows := range sizes {
			for j, cols := range sizes {
				a := api.Arg{Ref: i%2 > 0, Miss: j%3 == 0, Rows: rows, Cols: cols}
				for k := range (i + j) % 4 {
					a.Cells = append(a.Cells, at(sizes[(i+k)%8], sizes[(j+2*k)%8], values[(i*8+j+k)%len(values)]))
				}
				for n := range 6 {
					args := append(good("SUM", n), a)
					fnmath.Call(name, args, envs[(i+j)%3])
					fnmath.Call(name, append([]api.Arg{a}, args[:n]...), envs[(i+j)%3])
					fnmath.Call(name, slices.Repeat([]api.Arg{a}, n), envs[(i+j)%3])
				}
			}
		}
		fnmath.Call(name, nil, api.Env{})
		fnmath.Call(name, []api.Arg{}, api.Env{})
		fnmath.Call(name, make([]api.Arg, 3), api.Env{})
	}
}

// R1: areas of which very much is told, of each function that takes such.
func TestLong(t *testing.T) {
	big := api.Arg{Ref: true, Rows: 1 << 19, Cols: 2}
	for i := range 1 << 20 {
		big.Cells = append(big.Cells, at(i/2, i%2, num(1)))
	}
	other := api.Arg{Ref: true, Rows: 1 << 19, Cols: 2}
	for i := range 1 << 19 {
		other.Cells = append(other.Cells, at(i, 1, num(2)))
	}
	none := fault(api.ENum)
	for name, v := range map[string]api.Value{"SUM": num(1 << 21), "PRODUCT": none, "SUMSQ": num(3 << 20), "GCD": num(1), "LCM": num(2), "MULTINOMIAL": none, "SUMPRODUCT": num(1 << 20), "SUMX2PY2": num(5 << 19), "SUMX2MY2": num(-3 << 19), "SUMXMY2": num(1 << 19)} {
		want(t, name, v, big, other)
	}
	want(t, "SERIESSUM", num(1<<20), append(singles(1, 1, 0), big)...)
	want(t, "SERIESSUM", fault(api.ENum), append(singles(1, 1, 1), big)...)
	want(t, "ABS", fault(api.EValue), big)
	want(t, "ROMAN", fault(api.EValue), big)
	many := slices.Repeat([]api.Arg{refer(column(slices.Repeat(just(170), 4096)...))}, 32)
	want(t, "GCD", num(170), many...)
	want(t, "MULTINOMIAL", fault(api.ENum), many...)
	want(t, "SUMPRODUCT", num(0), slices.Repeat([]api.Arg{refer(column(slices.Repeat(just(1e-300), 4096)...))}, 32)...)
}

// roomy is a list with something behind its end.
func roomy[T any](l []T, behind T) []T {
	return append(append(make([]T, 0, len(l)+2), l...), behind, behind)[:len(l)]
}

// R3: what is handed in is left as it is, and what lies in the room behind a list's end.
func TestLeftAsItIs(t *testing.T) {
	d := draws(16)
	for _, name := range all() {
		least, most, _ := fnmath.Arity(name)
		for range 300 {
			var args, given []api.Arg
			for range least + d.below(min(most, 5)-least+1) {
				a := pick(&d, d.argument(), d.argument(), d.area(2, 2))
				args = append(args, a)
				a.Cells = roomy(slices.Clone(a.Cells), at(7, 7, text("behind")))
				given = append(given, a)
			}
			given = roomy(given, missing())
			env := api.Env{Now: 3, Draws: roomy(just(0.5), 0.75)}
			fnmath.Call(name, given, env)
			for i, a := range given {
				room := a.Cells[len(a.Cells) : len(a.Cells)+2]
				if told([]api.Arg{a}) != told(args[i:i+1]) || !slices.Equal(a.Cells, args[i].Cells) || room[0] != at(7, 7, text("behind")) || room[1] != room[0] {
					t.Errorf("%s has changed %s", name, told(args[i:i+1]))
				}
			}
			room := given[len(given) : len(given)+2]
			if told(room) != told([]api.Arg{missing(), missing()}) || !slices.Equal(env.Draws[:3], just(0.5, 0.75, 0.75)) {
				t.Errorf("%s has changed what lies behind %s", name, told(args))
			}
		}
	}
}

// R3: what is answered is nobody else's, its spare room too.
func TestAnswersAreNew(t *testing.T) {
	for _, name := range all() {
		least, _, _ := fnmath.Arity(name)
		args := good(name, least)
		first, _ := fnmath.Call(name, args, half())
		kept := first.Vals[0]
		room := first.Vals[:cap(first.Vals)]
		for i := range room {
			room[i] = text("spoiled")
		}
		want(t, name, kept, args...)
	}
	first, second := fnmath.Names(), fnmath.Names()
	room := first[:cap(first)]
	for i := range room {
		room[i] = "spoiled"
	}
	if !slices.Equal(second, all()) || !slices.Equal(fnmath.Names(), all()) {
		t.Error("names have changed with others")
	}
}

// R3: no text of an answer lies in what was handed in.
func TestTextsAreNew(t *testing.T) {
	lent := []byte("MMXXVI ff")
	roman := api.Arg{Rows: 1, Cols: 1, Cells: []api.Place{at(0, 0, text(unsafe.String(&lent[0], 6)))}}
	digits := single(text(unsafe.String(&lent[7], 2)))
	a, _ := fnmath.Call("ARABIC", []api.Arg{roman}, api.Env{})
	b, _ := fnmath.Call("DECIMAL", []api.Arg{digits, single(num(16))}, api.Env{})
	copy(lent, "spoiled..")
	if !same(a.Vals[0], num(2026)) || !same(b.Vals[0], num(255)) {
		t.Error("answers have changed with what was handed in")
	}
}

// R4: many at once answer what one does, whatever was asked before.
func TestAtOnce(t *testing.T) {
	type question struct {
		name string
		args []api.Arg
		want api.Value
	}
	d := draws(17)
	var l []question
	for _, name := range all() {
		least, most, _ := fnmath.Arity(name)
		for range 20 {
			q := question{name: name}
			for range least + d.below(min(most, 4)-least+1) {
				q.args = append(q.args, d.argument())
			}
			q.want, _ = model(name, q.args, half().Draws)
			l = append(l, q)
		}
	}
	var workers sync.WaitGroup
	for i := range 8 {
		workers.Go(func() {
			for j := range l {
				q := l[(j*7+i*100)%len(l)]
				want(t, q.name, q.want, q.args...)
			}
		})
	}
	workers.Wait()
}
