package fnstat_test

import (
	"math"
	"slices"
	"strings"
	"sync"
	"testing"
	"unsafe"

	"gridiron/api"
	"gridiron/fnstat"
)

// R1: every call ends and none panics, whatever it is given.
func TestNoPanic(t *testing.T) {
	names := append(all(), "", "MA", "max", strings.Repeat("X", 1<<20))
	sizes := []int{math.MinInt, -1, 0, 1, 2, 1 << 31, 1 << 32, math.MaxInt}
	values := append(malformed(), api.Value{}, num(1), text("a"), fault(math.MinInt), api.Value{Kind: math.MaxInt}, api.Value{Kind: math.MinInt, Num: nan})
	for _, name := range names {
		fnstat.Arity(name)
		for i, rows := range sizes {
			for j, cols := range sizes {
				a := api.Arg{Ref: i%2 > 0, Miss: j%3 == 0, Rows: rows, Cols: cols}
				for k := range (i + j) % 4 {
					a.Cells = append(a.Cells, at(sizes[(i+k)%8], sizes[(j+2*k)%8], values[(i*8+j+k)%len(values)]))
				}
				fnstat.Numbers(a, i%2 == 0)
				for n := range 4 {
					args := append(good(n), a)
					fnstat.Call(name, args, api.Env{Now: nan, Draws: just(most)})
					fnstat.Call(name, append([]api.Arg{a}, args[:n]...), api.Env{})
					fnstat.Call(name, slices.Repeat([]api.Arg{a}, n), api.Env{})
				}
			}
		}
		fnstat.Call(name, nil, api.Env{})
		fnstat.Call(name, []api.Arg{}, api.Env{})
		fnstat.Call(name, make([]api.Arg, 3), api.Env{})
	}
	for _, c := range values {
		for _, v := range values {
			fnstat.Meets(c, v)
		}
	}
	for _, l := range [][]float64{nil, {}, {nan}, {most, -most}, {below0, great, great}} {
		fnstat.Sum(l)
		fnstat.Mean(l)
		fnstat.Square(l)
	}
}

// R1: areas of which very much is told, of each function.
func TestLong(t *testing.T) {
	const rows = 1 << 15
	big, other := api.Arg{Ref: true, Rows: rows, Cols: 2}, api.Arg{Ref: true, Rows: rows, Cols: 2}
	for i := range 2 * rows {
		big.Cells = append(big.Cells, at(i/2, i%2, num(float64(i%1000))))
		if i%2 > 0 {
			other.Cells = append(other.Cells, at(i/2, 1, num(float64(i%64))))
		}
	}
	many := api.Arg{Ref: true, Rows: 4095, Cols: 1}
	for i := range many.Rows {
		many.Cells = append(many.Cells, at(i, 0, num(float64(i)/4)))
	}
	for _, name := range all() {
		switch least, most := arity(name); {
		case strings.HasSuffix(name, "IFS"):
			args := slices.Repeat([]api.Arg{big, single(text("<>1"))}, 6)
			if name != "COUNTIFS" {
				args = append([]api.Arg{big}, args...)
			}
			answered(t, name, args...)
		case strings.HasSuffix(name, "IF"):
			answered(t, name, append(asked(big, ">=500"), other)[:most]...)
		case name == "FREQUENCY":
			x, is := fnstat.Call(name, []api.Arg{big, many}, api.Env{})
			if !is || x.Rows != 4096 {
				t.Error("FREQUENCY of much", x.Rows, is)
			}
		case name == "FORECAST":
			answered(t, name, single(num(1)), big, other)
		case name == "RANK":
			want(t, name, num(1), single(num(999)), big)
		case most == 2:
			answered(t, name, big, single(num(1)))
			answered(t, name, big, other)
		default:
			answered(t, name, slices.Repeat([]api.Arg{big, other}, 2)[:max(least, min(most, 4))]...)
		}
	}
	want(t, "COUNT", num(3*rows), big, other)
	want(t, "COUNTIF", num(2*rows-66), asked(big, "<>1")...)
}

// roomy is a list with something behind its end.
func roomy[T any](l []T, behind T) []T {
	return append(append(make([]T, 0, len(l)+2), l...), behind, behind)[:len(l)]
}

// R3: what is handed in is left as it is, and what lies in the room behind a list's end.
func TestLeftAsItIs(t *testing.T) {
	d := draws(12)
	for _, name := range all() {
		for range 200 {
			args := d.arguments(name)
			var given []api.Arg
			for _, a := range args {
				a.Cells = roomy(slices.Clone(a.Cells), at(7, 7, text("behind")))
				given = append(given, a)
			}
			given = roomy(given, missing())
			fnstat.Call(name, given, api.Env{})
			fnstat.Numbers(given[0], true)
			for i, a := range given {
				room := a.Cells[len(a.Cells) : len(a.Cells)+2]
				if told([]api.Arg{a}) != told(args[i:i+1]) || !slices.Equal(a.Cells, args[i].Cells) || room[0] != at(7, 7, text("behind")) || room[1] != room[0] {
					t.Errorf("%s has changed %s", name, told(args[i:i+1]))
				}
			}
			if room := given[len(given) : len(given)+2]; told(room) != told([]api.Arg{missing(), missing()}) {
				t.Errorf("%s has changed what lies behind %s", name, told(args))
			}
		}
	}
	for _, f := range []func([]float64) float64{fnstat.Sum, fnstat.Mean, fnstat.Square} {
		l := roomy(just(3, 1, 2), 9)
		f(l)
		if !slices.Equal(l[:5], just(3, 1, 2, 9, 9)) {
			t.Errorf("numbers have become %v", l[:5])
		}
	}
}

// R3: what is answered is nobody else's, its spare room too.
func TestAnswersAreNew(t *testing.T) {
	for _, name := range all() {
		least, _ := arity(name)
		args := good(least)
		first, _ := fnstat.Call(name, args, api.Env{})
		second, _ := fnstat.Call(name, args, api.Env{})
		room := first.Vals[:cap(first.Vals)]
		for i := range room {
			room[i] = text("spoiled")
		}
		wantArray(t, name, second, true, args...)
	}
	for _, a := range []api.Arg{numbers(1, 2, 3), single(num(1)), single(text("1"))} {
		first, _ := fnstat.Numbers(a, false)
		second, _ := fnstat.Numbers(a, false)
		kept := slices.Clone(second)
		for i := range first[:cap(first)] {
			first[:cap(first)][i] = -7
		}
		if third, _ := fnstat.Numbers(a, false); !slices.Equal(second, kept) || !slices.Equal(third, kept) {
			t.Errorf("numbers have changed with others: %v, %v", second, third)
		}
	}
	first, second := fnstat.Names(), fnstat.Names()
	for i := range first[:cap(first)] {
		first[:cap(first)][i] = "spoiled"
	}
	if !slices.Equal(second, all()) || !slices.Equal(fnstat.Names(), all()) {
		t.Error("names have changed with others")
	}
}

// R3: nothing that is handed in is kept.
func TestNothingKept(t *testing.T) {
	lent := []byte("MEDIAN>1 3")
	name, c, three := unsafe.String(&lent[0], 6), unsafe.String(&lent[6], 2), unsafe.String(&lent[9], 1)
	a, _ := fnstat.Call(name, []api.Arg{single(text(three))}, api.Env{})
	b, _ := fnstat.Call("COUNTIF", asked(numbers(1, 2, 3), c), api.Env{})
	l, _ := fnstat.Numbers(single(text(three)), false)
	copy(lent, "spoiled...")
	if !same(a.Vals[0], num(3)) || !same(b.Vals[0], num(2)) || !slices.Equal(l, just(3)) || !slices.Equal(fnstat.Names(), all()) {
		t.Error("answers have changed with what was handed in")
	}
}

// R4: clock and draws say nothing, and many at once answer what one does, whatever was asked before.
func TestAtOnce(t *testing.T) {
	type question struct {
		name string
		args []api.Arg
		want api.Arr
	}
	d := draws(13)
	var l []question
	for _, name := range all() {
		for range 10 {
			q := question{name: name, args: d.arguments(name)}
			q.want, _ = model(name, q.args)
			l = append(l, q)
		}
	}
	var workers sync.WaitGroup
	for i := range 8 {
		workers.Go(func() {
			for j := range l {
				q := l[(j*7+i*100)%len(l)]
				wantArray(t, q.name, q.want, true, q.args...)
				if x, is := fnstat.Call(q.name, q.args, api.Env{}); !is || !sameArray(x, q.want) {
					t.Errorf("%s hangs on the clock", q.name)
				}
			}
		})
	}
	workers.Wait()
}
