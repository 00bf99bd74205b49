package array_test

import (
	"math"
	"strings"

	"gridiron/api"
)

// draws looks drawn, and is the same in each run.
type draws uint64

// below is a number from 0 on below n.
func (d *draws) below(n int) int {
	x := uint64(*d)
	x ^= x << 13
	x ^= x >> 7
	x ^= x << 17
	*d = draws(x)
	return int(x * 0x2545F4914F6CDD1D >> 33 % uint64(n))
}

func (d *draws) yes() bool {
	return d.below(2) > 0
}

func pick[T any](d *draws, from ...T) T {
	return from[d.below(len(from))]
}

// floats are numbers at which something may change.
func floats() []float64 {
	out := []float64{0, 1, 2, 3, 0.5, 0.1, 1.5, 2.5, 100, 1023, 1024, 1025, 1e21, 1e-7, 0x1p53, 0x1p53 + 2, 0x1p512, 0x1p-537, math.MaxFloat64, math.SmallestNonzeroFloat64, 0x1p-1022, math.Nextafter(1, 2), math.Nextafter(0.5, 1)}
	for _, x := range out[1:] {
		out = append(out, -x)
	}
	return out
}

// words are texts: some are numbers, some look like other values, some are none of these.
func words() []string {
	return []string{"", "1", "-2.5", "1e3", "5E-1", "0.5", "-0", "1e999", "+1", ".5", "1.", " 1", "a", "A", "ab", "B", "TRUE", "false", "#N/A", "é", "É", "\x00", "\uffff", "\U0001F600"}
}

// formed are well-formed values of each kind.
func formed() []api.Value {
	out := []api.Value{{}, truth(false), truth(true)}
	out = append(out, nums(floats()...)...)
	for _, s := range words() {
		out = append(out, text(s))
	}
	for code := 1; code <= 9; code++ {
		out = append(out, fault(code))
	}
	return out
}

// full is a text of as many bytes as a text may have.
func full() string { return strings.Repeat("a", api.MaxText) }

// malformed are values that are not well formed; the last two are too long.
func malformed() []api.Value {
	out := nums(nan, -nan, most, least, below0)
	for _, s := range []string{"\xff", "a\xc3", "\xed\xa0\x80", full()[1:] + "\xff", full() + "\xff"} {
		out = append(out, text(s))
	}
	for _, code := range []int{0, -1, 10, math.MaxInt, math.MinInt} {
		out = append(out, fault(code))
	}
	for _, kind := range []int{-1, 5, math.MaxInt, math.MinInt} {
		out = append(out, api.Value{Kind: kind})
	}
	for kind := range 5 {
		for other, v := range []api.Value{{Num: 1}, {Num: below0}, {Num: nan}, {Text: "a"}, {Text: full() + "a"}, {Yes: true}, {Err: 1}, {Err: 10}} {
			if kind == []int{1, 1, 1, 2, 2, 3, 4, 4}[other] {
				continue
			}
			v.Kind = kind
			if kind == api.VErr {
				v.Err = 1
			}
			out = append(out, v)
		}
	}
	return append(out, text(full()+"a"), text(full()[1:]+"é"))
}

// long is a value whose text is too long, odd one that is wrong otherwise.
func long() api.Value { return text(full() + "a") }

func odd() api.Value { return num(nan) }

// value is mostly a small number or a short text, and well formed, if it must be.
func (d *draws) value(must bool) api.Value {
	switch d.below(12) {
	case 0:
		return api.Value{}
	case 1, 2:
		return pick(d, formed()...)
	case 3:
		return text(pick(d, words()...))
	case 4:
		return truth(d.yes())
	case 5:
		return num(pick(d, floats()...))
	case 6:
		if !must && d.below(8) == 0 {
			return pick(d, malformed()...)
		}
	}
	return num(float64(d.below(7) - 2))
}

// array is a small one, most often one that may be, if it needn't be.
func (d *draws) array(must bool) api.Arr {
	a := api.Arr{Rows: pick(d, 1, 1, 2, 3, 4), Cols: pick(d, 1, 1, 2, 3, 5)}
	for range a.Rows * a.Cols {
		a.Vals = append(a.Vals, d.value(must))
	}
	if must {
		return a
	}
	switch d.below(30) {
	case 0:
		a.Rows = d.wrongSize()
	case 1:
		a.Cols = d.wrongSize()
	case 2:
		a.Vals = append(a.Vals, num(1))
	case 3:
		a.Vals = a.Vals[1:]
	}
	return a
}

func (d *draws) wrongSize() int {
	return pick(d, -1, 0, 4096, 4097, math.MaxInt, math.MinInt)
}

// argument is mostly one that may be, with few of its places told.
func (d *draws) argument() api.Arg {
	a := api.Arg{Ref: d.yes(), Rows: pick(d, 1, 1, 2, 3, 100, 64, api.MaxRows), Cols: pick(d, 1, 1, 2, 3, 64, 65, api.MaxCols)}
	place := d.below(3)
	for place < a.Rows*a.Cols && d.below(6) > 0 {
		v := d.value(false)
		if v.Kind != api.VEmpty || d.below(20) == 0 {
			a.Cells = append(a.Cells, api.Place{Row: place / a.Cols, Col: place % a.Cols, Val: v})
		}
		place += 1 + pick(d, 0, 0, 0, 1, 2, 100)
	}
	switch d.below(40) {
	case 0:
		a.Miss = true
	case 1:
		a = api.Arg{Miss: true, Rows: 1, Cols: 1, Ref: d.yes()}
	case 2:
		a.Rows = d.wrongSize()
	case 3:
		a.Cols = d.wrongSize()
	case 4:
		a.Cells = append(a.Cells, a.Cells...)
	}
	return a
}
