package fnstat_test

import (
	"slices"
	"strings"
	"testing"

	"gridiron/api"
	"gridiron/fnstat"
	"gridiron/value"
)

// answered is what a function answers of arguments that it takes: one value, but of FREQUENCY.
func answered(t *testing.T, name string, args ...api.Arg) api.Value {
	t.Helper()
	x, is := fnstat.Call(name, args, api.Env{})
	if !is || x.Rows < 1 || x.Cols != 1 || len(x.Vals) != x.Rows || x.Rows > api.MaxArea || x.Rows > 1 && name != "FREQUENCY" {
		t.Fatalf("%s %s: %s, %v", name, told(args), told(x), is)
	}
	for _, v := range x.Vals {
		if value.Check(v) != api.OK || v.Kind != api.VNum && v.Kind != api.VErr {
			t.Fatalf("%s %s: %s", name, told(args), told(v))
		}
	}
	return x.Vals[0]
}

// P18.1: drawn arguments of each function: each answer is well formed, and the model's.
func TestDrawn(t *testing.T) {
	d := draws(7)
	for _, name := range all() {
		for range 600 {
			args := d.arguments(name)
			answered(t, name, args...)
			check(t, name, args...)
		}
	}
}

// P18.1: the greatest numbers and the least, in any number of them.
func TestFormed(t *testing.T) {
	d := draws(8)
	for _, name := range all() {
		least, most := arity(name)
		for range 500 {
			var args []api.Arg
			for range least + d.below(most-least+1) {
				var l []float64
				for range 1 + d.below(3) {
					l = append(l, pick(&d, edges()...))
				}
				args = append(args, pick(&d, single(num(l[0])), numbers(l...), numbers(l[0], l[0], l[len(l)-1])))
			}
			answered(t, name, args...)
		}
	}
}

// mixed is a row of values in another order.
func (d *draws) mixed(l []api.Value) []api.Value {
	out := slices.Clone(l)
	for i := range out {
		j := d.below(i + 1)
		out[i], out[j] = out[j], out[i]
	}
	return out
}

// P18.2: what does not hang on the order of places.
func TestOrder(t *testing.T) {
	d := draws(9)
	names := strings.Fields("COUNT COUNTA MAX MIN MEDIAN LARGE SMALL COUNTIF")
	for range 5000 {
		var l []api.Value
		code := 1 + d.below(9)
		for range 2 + d.below(10) {
			v := d.value()
			if v.Kind == api.VErr {
				v.Err = code // of several the first one would be told
			}
			l = append(l, v)
		}
		other := d.mixed(l)
		for _, name := range names {
			rest := []api.Arg{single(num(float64(1 + d.below(len(l)))))}
			if name == "COUNTIF" {
				rest[0] = single(pick(&d, text(pick(&d, words()...)), l[0], num(1)))
			}
			if least, _ := arity(name); least == 1 {
				rest = nil
			}
			want(t, name, answered(t, name, append([]api.Arg{column(l...)}, rest...)...), append([]api.Arg{pick(&d, column(other...), line(other...))}, rest...)...)
		}
	}
}

// P18.3: SMALL of 1 to n are the numbers, rising, and LARGE the same from the other end.
func TestSmallAndLarge(t *testing.T) {
	d := draws(10)
	for range 1500 {
		var l []float64
		for range 1 + d.below(12) {
			l = append(l, d.float())
		}
		a := numbers(l...)
		var up []float64
		for k := range l {
			up = append(up, answered(t, "SMALL", a, single(num(float64(k+1)))).Num)
			want(t, "LARGE", num(up[k]), a, single(num(float64(len(l)-k))))
			if !slices.Contains(l, up[k]) {
				t.Errorf("%v is none of %v", up[k], l)
			}
		}
		slices.Sort(l)
		if !slices.Equal(up, l) {
			t.Errorf("%v are not %v", up, l)
		}
	}
}

// P18.3: what meets a criterion and what meets the same with <> ahead are all places.
func TestAllPlaces(t *testing.T) {
	d := draws(11)
	for range 10000 {
		a := d.area(1+d.below(4), 1+d.below(4))
		c := pick(&d, "a", "A", "ab", "é", "x y", "falſe", "a=", "1 ", "+1", "#n/a", "\x00")
		met := answered(t, "COUNTIF", asked(a, c)...).Num + answered(t, "COUNTIF", asked(a, "<>"+c)...).Num
		if met != float64(a.Rows*a.Cols) {
			t.Errorf("%q meet %v of %s", c, met, told([]api.Arg{a}))
		}
		for c, v := range map[string]api.Value{"1": num(1), "-2.5": num(-2.5), "true": truth(true)} {
			met := answered(t, "COUNTIF", a, single(v)).Num + answered(t, "COUNTIF", asked(a, "<>"+c)...).Num
			if met != float64(a.Rows*a.Cols) {
				t.Errorf("%q meet %v of %s", c, met, told([]api.Arg{a}))
			}
		}
	}
}
