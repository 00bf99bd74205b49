package fnmath_test

import (
	"math/big"
	"slices"
	"testing"

	"gridiron/api"
	"gridiron/fnmath"
	"gridiron/value"
)

// asked is what a function answers of arguments that it takes.
func asked(t *testing.T, name string, args ...api.Arg) api.Value {
	t.Helper()
	a, is := fnmath.Call(name, args, half())
	if !is || a.Rows != 1 || a.Cols != 1 || len(a.Vals) != 1 {
		t.Fatalf("%s %.300s: %v", name, told(args), is)
	}
	return a.Vals[0]
}

// P17.1, P17.2: drawn arguments of each function: each answer is one value that is well formed, and the model's.
func TestDrawn(t *testing.T) {
	d := draws(10)
	for _, name := range all() {
		least, most, _ := fnmath.Arity(name)
		for range 4000 {
			var args []api.Arg
			for range least + d.below(min(most, 5)-least+1) {
				args = append(args, d.argument())
			}
			if v := asked(t, name, args...); value.Check(v) != api.OK || v.Kind == api.VEmpty || v.Kind == api.VBool {
				t.Errorf("%s %.300s: %s", name, told(args), told(v))
			}
			check(t, name, args...)
		}
	}
}

// P17.2: the greatest numbers and the least, in any number of them.
func TestFormed(t *testing.T) {
	d := draws(11)
	for _, name := range all() {
		least, most, _ := fnmath.Arity(name)
		for range 3000 {
			var args []api.Arg
			for range least + d.below(most-least+1) {
				args = append(args, single(num(pick(&d, edges()...))))
			}
			if name == "DECIMAL" || name == "ARABIC" {
				args[0] = single(pick(&d, values()...))
			}
			if v := asked(t, name, args...); value.Check(v) != api.OK || len(v.Text) > 255 {
				t.Errorf("%s %.300s: %s", name, told(args), told(v))
			}
		}
	}
}

// wholes are whole numbers whose amounts together are not above 2^53.
func (d *draws) wholes(n int) []float64 {
	var out []float64
	left := 1 << 53
	for range n {
		x := d.below(1<<30) * (1 << 20) % (left/2 + 1)
		left -= x
		out = append(out, pick(d, float64(x), -float64(x), float64(x%100))+0)
	}
	return out
}

// P17.3: a sum of sums is the sum.
func TestSumOfSums(t *testing.T) {
	d := draws(12)
	for range 5000 {
		var args []api.Arg
		for range 1 + d.below(6) {
			l := d.wholes(1 + d.below(3))
			for i := range l {
				l[i] = floorOf(l[i] / 64)
			}
			args = append(args, pick(&d, refer(column(l...)), column(l...), single(num(l[0])), single(text("12")), refer(block(1, num(l[0]), text("7"), truth(true))), missing()))
		}
		first := single(asked(t, "SUM", args[0]))
		want(t, "SUM", asked(t, "SUM", args...), append([]api.Arg{first}, args[1:]...)...)
		all := asked(t, "SUM", args[:1]...)
		for _, a := range args[1:] {
			all = asked(t, "SUM", single(all), a)
		}
		want(t, "SUM", all, args...)
	}
}

// P17.3: a quotient times y, and what is left, are x.
func TestQuotientAndRest(t *testing.T) {
	d := draws(13)
	for range 50000 {
		x := float64(d.below(1<<30)<<23 + d.below(1<<23))
		y := float64(1 + pick(&d, d.below(10), d.below(1<<20), d.below(1<<30)<<23))
		x = pick(&d, x, x, float64(d.below(1000)), 0x1p53, 0x1p53-1, y, y-1, floorOf(x/y)*y, max(floorOf(x/y)*y-1, 0))
		q, rest := asked(t, "QUOTIENT", singles(x, y)...), asked(t, "MOD", singles(x, y)...)
		back := new(big.Int).Mul(whole(q.Num), whole(y))
		back.Add(back, whole(rest.Num))
		if q.Kind != api.VNum || rest.Kind != api.VNum || back.Cmp(whole(x)) != 0 {
			t.Errorf("%v by %v: %v, %v", x, y, q.Num, rest.Num)
		}
	}
}

// P17.4: numbers as digits, and back.
func TestDigitsBack(t *testing.T) {
	d := draws(14)
	for k := 2.0; k <= 36; k++ {
		l := []float64{0, 1, k - 1, k, k + 1, k * k, 0x1p53, 0x1p53 - 1}
		for range 100 {
			l = append(l, float64(d.below(1<<30)<<23+d.below(1<<23)), float64(d.below(5000)))
		}
		for _, n := range l {
			digits := asked(t, "BASE", singles(n, k, float64(d.below(256)))...)
			want(t, "DECIMAL", num(n), single(digits), single(num(k)))
		}
	}
}

// P17.4: the divisor times the multiple is the product.
func TestDivisorTimesMultiple(t *testing.T) {
	d := draws(15)
	for range 20000 {
		a, b := float64(d.below(1<<pick(&d, 4, 10, 26))), float64(d.below(1<<pick(&d, 4, 10, 26)))
		x, y := asked(t, "GCD", singles(a, b)...), asked(t, "LCM", singles(a, b)...)
		if x.Kind != api.VNum || y.Kind != api.VNum || new(big.Int).Mul(whole(x.Num), whole(y.Num)).Cmp(new(big.Int).Mul(whole(a), whole(b))) != 0 {
			t.Errorf("%v and %v: %s, %s", a, b, told(x), told(y))
		}
		l := singles(a, b)
		slices.Reverse(l)
		want(t, "GCD", x, l...)
		want(t, "LCM", y, l...)
	}
}
