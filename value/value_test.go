package value_test

import (
	"math"
	"strings"
	"testing"

	"gridiron/api"
	"gridiron/value"
)

// P9.1: a value of each kind has just what it is made of, whatever that is.
func TestMakers(t *testing.T) {
	for _, x := range numbers {
		if v := value.Num(x); !modelSame(v, api.Value{Kind: 1, Num: x}) {
			t.Errorf("Num(%v): %s", x, told(v))
		}
	}
	for _, s := range append(append([]string{strings.Repeat("a", api.MaxText+1)}, plain...), strange...) {
		if v := value.Text(s); !modelSame(v, api.Value{Kind: 2, Text: s}) {
			t.Errorf("Text(%q): %s", s, told(v))
		}
	}
	for _, yes := range []bool{false, true} {
		if v := value.Bool(yes); !modelSame(v, api.Value{Kind: 3, Yes: yes}) {
			t.Errorf("Bool(%v): %s", yes, told(v))
		}
	}
	for _, code := range codes {
		if v := value.Err(code); !modelSame(v, api.Value{Kind: 4, Err: code}) {
			t.Errorf("Err(%d): %s", code, told(v))
		}
	}
}

func wantCheck(t *testing.T, v api.Value, want api.Errno) {
	t.Helper()
	if got := value.Check(v); got != want {
		t.Errorf("Check(%s): %d, want %d", told(v), got, want)
	}
}

// P9.1: each kind, and Kinds below and above those that there are.
func TestCheckKinds(t *testing.T) {
	for _, v := range []api.Value{{}, {Kind: 1}, {Kind: 2}, {Kind: 3}, {Kind: 3, Yes: true}, {Kind: 4, Err: 1}} {
		wantCheck(t, v, api.OK)
		for _, kind := range kinds {
			v.Kind = kind
			wantCheck(t, v, api.ErrArg)
		}
	}
}

// P9.1: numbers at the edges of those that there are.
func TestCheckNumbers(t *testing.T) {
	for _, x := range []float64{0, 1, -1, 0.1, math.MaxFloat64, -math.MaxFloat64, math.SmallestNonzeroFloat64, -math.SmallestNonzeroFloat64, 0x1p-1022, 1e21} {
		wantCheck(t, value.Num(x), api.OK)
	}
	for _, x := range []float64{nan1, nan2, nan3, math.NaN(), -math.NaN(), most, least, below0} {
		wantCheck(t, value.Num(x), api.ErrArg)
	}
}

// P9.1: a text is UTF-8 as Go has it, and no character of it is barred.
func TestCheckTexts(t *testing.T) {
	for _, s := range plain {
		wantCheck(t, value.Text(s), api.OK)
	}
	for _, s := range strange {
		for _, around := range []string{"", "a", "é", "\U0010FFFF"} {
			wantCheck(t, value.Text(around+s), api.ErrArg)
			wantCheck(t, value.Text(s+around), api.ErrArg)
		}
	}
	for _, s := range []string{"\u007f\u0080\u07ff\u0800\ud7ff\ue000\uffff\U00010000", "\x00\x01\x1f", "\ufffe\uffff", "\ufeff"} {
		wantCheck(t, value.Text(s), api.OK)
	}
}

// P9.1: MaxText bytes, and one more, with a fault in it and without; the fault is told ahead of the length.
func TestCheckLength(t *testing.T) {
	full := strings.Repeat("a", api.MaxText)
	wide := strings.Repeat("é", api.MaxText/2)
	for _, s := range []string{full[1:], full, wide, wide[2:] + "a"} {
		wantCheck(t, value.Text(s), api.OK)
	}
	for _, s := range []string{full + "a", wide + "a", wide + "é", "a" + wide, full + full, strings.Repeat("a", 1<<20)} {
		wantCheck(t, value.Text(s), api.ErrLong)
	}
	for _, s := range []string{full[1:] + "\xff", "\xff" + full[1:], full + "\xff", "\xff" + full, wide[1:], wide[:len(wide)-1], wide + "\xc3", full + full + "\xff", full[1:] + "é"[:1] + full} {
		wantCheck(t, value.Text(s), api.ErrArg)
	}
	for kind, v := range []api.Value{{}, {Num: 1}, {}, {Yes: true}, {Err: 1}} {
		if kind != api.VText {
			v.Kind, v.Text = kind, full+"a"
			wantCheck(t, v, api.ErrArg)
		}
	}
	for _, v := range []api.Value{{Num: 1}, {Num: below0}, {Num: nan1}, {Yes: true}, {Err: 1}} {
		v.Kind, v.Text = api.VText, full+"a"
		wantCheck(t, v, api.ErrArg)
	}
}

// P9.1: an error's code is 1 to 9.
func TestCheckErrors(t *testing.T) {
	for _, code := range codes {
		want := api.ErrArg
		if code >= 1 && code <= 9 {
			want = api.OK
		}
		wantCheck(t, value.Err(code), want)
	}
}

// P9.1: nothing but zero may stand in the field of another kind; a -0 and a NaN are not zero there.
func TestCheckOtherFields(t *testing.T) {
	for _, v := range clean() {
		wantCheck(t, v, modelCheck(v))
		for _, other := range soiled(v) {
			wantCheck(t, other, api.ErrArg)
			for _, more := range soiled(other) {
				wantCheck(t, more, modelCheck(more))
			}
		}
	}
}

// P9.1: each field counts, and of a number all its bits.
func TestSame(t *testing.T) {
	wantSame := func(a, b api.Value, want bool) {
		t.Helper()
		if value.Same(a, b) != want || value.Same(b, a) != want {
			t.Errorf("Same(%s, %s): not %v", told(a), told(b), want)
		}
	}
	for _, x := range []float64{nan1, nan2, nan3, math.NaN(), 0, below0, most, least} {
		for _, y := range []float64{nan1, nan2, nan3, math.NaN(), 0, below0, most, least} {
			wantSame(value.Num(x), value.Num(y), math.Float64bits(x) == math.Float64bits(y))
			wantSame(api.Value{Num: x}, api.Value{Num: y}, math.Float64bits(x) == math.Float64bits(y))
		}
	}
	wantSame(value.Text("a"), value.Text("A"), false)
	wantSame(value.Text("a\xff"), value.Text("a\xff"), true)
	wantSame(value.Text("a\xff"), value.Text("a\uFFFD"), false)
	wantSame(value.Text(""), api.Value{}, false)
	wantSame(value.Num(0), api.Value{}, false)
	wantSame(value.Bool(false), api.Value{}, false)
	wantSame(value.Bool(false), value.Bool(true), false)
	wantSame(value.Err(3), value.Err(3), true)
	wantSame(value.Err(1<<32+3), value.Err(3), false)
	wantSame(api.Value{Kind: 1<<32 + 1}, api.Value{Kind: 1}, false)
	wantSame(api.Value{Kind: 9, Text: "x"}, api.Value{Kind: 9, Text: "x"}, true)
	all := clean()
	for _, v := range clean()[:12] {
		all = append(all, soiled(v)...)
	}
	for i, a := range all {
		for _, b := range all[i:] {
			wantSame(a, b, modelSame(a, b))
		}
		for _, other := range soiled(a) {
			wantSame(a, other, modelSame(a, other))
		}
	}
}

// P9.2: what is no finite number is the error ENum, -0 is 0, all others stay to the bit.
func TestReckon(t *testing.T) {
	for _, x := range []float64{nan1, nan2, nan3, math.NaN(), most, least} {
		if v := value.Reckon(x); !modelSame(v, api.Value{Kind: 4, Err: 6}) {
			t.Errorf("Reckon(%v): %s", x, told(v))
		}
	}
	for _, x := range []float64{0, below0} {
		if v := value.Reckon(x); !modelSame(v, api.Value{Kind: 1}) {
			t.Errorf("Reckon(%v): %s", x, told(v))
		}
	}
	d := draws(1)
	for i := range 20000 {
		x := d.float()
		if i < len(numbers) {
			x = numbers[i]
		}
		v := value.Reckon(x)
		if x != 0 && x-x == 0 && !modelSame(v, api.Value{Kind: 1, Num: x}) {
			t.Errorf("Reckon(%v): %s", x, told(v))
		}
		wantCheck(t, v, api.OK)
	}
}
