package huff_test

import (
	"math"
	"slices"
	"testing"

	"gridiron/api"
	"gridiron/huff"
)

// draws is a row of numbers that looks like none, the same one for the same beginning.
type draws uint64

func (d *draws) below(n int) int {
	*d = *d*6364136223846793005 + 1442695040888963407
	return int(uint64(*d) >> 33 % uint64(n))
}

// shuffle puts l in another order.
func (d *draws) shuffle(l []int) {
	for i := range l {
		k := i + d.below(len(l)-i)
		l[i], l[k] = l[k], l[i]
	}
}

// code is the lengths of a code of so many symbols (2 or more) that leaves no bits without one, and of noughts among them.
func (d *draws) code(symbols, noughts int) []int {
	l := []int{1, 1}
	for len(l) < symbols {
		i := d.below(len(l))
		if d.below(3) > 0 {
			i = len(l) - 1 // deep codes, too
		}
		if l[i] < 15 {
			l[i]++
			l = append(l, l[i])
		}
	}
	l = append(l, make([]int, noughts)...)
	d.shuffle(l)
	return l
}

// times is n numbers v.
func times(n, v int) []int {
	return slices.Repeat([]int{v}, n)
}

// chain is the lengths 1, 2, .., last, and others behind them.
func chain(last int, others ...int) []int {
	var l []int
	for length := 1; length <= last; length++ {
		l = append(l, length)
	}
	return append(l, others...)
}

// everyList hands on each list of n numbers from low to high.
func everyList(n, low, high int, f func([]int)) {
	l := times(n, low)
	for {
		f(l)
		i := 0
		for i < n && l[i] == high {
			l[i] = low
			i++
		}
		if i == n {
			return
		}
		l[i]++
	}
}

// modelCheck reckons the room as a sum of halves, quarters and so on, which a float64 has exactly.
func modelCheck(lengths []int) api.Errno {
	room, symbols := 0.0, 0
	for _, length := range lengths {
		if length > 0 {
			room += math.Pow(0.5, float64(length))
			symbols++
		}
	}
	switch {
	case room > 1:
		return api.ErrHuffOver
	case room == 1, symbols == 0, symbols == 1 && room == 0.5:
		return api.OK
	}
	return api.ErrHuffLess
}

// P2.1, the chapter's examples, and the edges of rooms, of lengths and of how many there are.
func TestCheck(t *testing.T) {
	for _, x := range []struct {
		lengths []int
		want    api.Errno
	}{
		{nil, api.OK}, {[]int{}, api.OK}, {[]int{0}, api.OK}, {[]int{0, 0}, api.OK},
		{[]int{1}, api.OK}, {[]int{0, 1, 0}, api.OK}, {[]int{1, 1}, api.OK},
		{[]int{2}, api.ErrHuffLess}, {[]int{15}, api.ErrHuffLess}, {[]int{0, 2, 0}, api.ErrHuffLess},
		{[]int{1, 2}, api.ErrHuffLess}, {[]int{2, 2}, api.ErrHuffLess}, {[]int{2, 2, 2}, api.ErrHuffLess},
		{[]int{1, 1, 1}, api.ErrHuffOver}, {[]int{1, 1, 15}, api.ErrHuffOver}, {[]int{2, 1, 3, 3}, api.OK},
		{chain(15, 15), api.OK}, {chain(15), api.ErrHuffLess}, {chain(15, 15, 15), api.ErrHuffOver},
		{times(512, 9), api.OK}, {times(511, 9), api.ErrHuffLess}, {append(times(511, 9), 8), api.ErrHuffOver},
		{append(times(511, 9), 10), api.ErrHuffLess}, {times(512, 0), api.OK}, {times(512, 15), api.ErrHuffLess},
		{times(512, 1), api.ErrHuffOver}, {append(times(511, 0), 1), api.OK},
	} {
		if got := huff.Check(x.lengths); got != x.want {
			t.Errorf("Check(%v): %v, want %v", x.lengths, got, x.want)
		}
	}
}

// P2.1: what is wrong with lengths, the first thing first.
func TestCheckRefused(t *testing.T) {
	for _, length := range []int{-1, 16, 17, 64, math.MinInt, math.MaxInt} {
		for _, lengths := range [][]int{{length}, {1, 1, length}, {length, 1, 1, 1}, {1, 1, 1, length}, {2, length}} {
			if got := huff.Check(lengths); got != api.ErrArg {
				t.Errorf("Check(%v): %v", lengths, got)
			}
		}
		if got := huff.Check(append(times(512, 1), length)); got != api.ErrLong {
			t.Errorf("Check of 513 with %d: %v", length, got)
		}
	}
	for _, l := range [][]int{times(513, 0), times(513, 1), times(513, 9), times(1024, 10), times(513, -1)} {
		if got := huff.Check(l); got != api.ErrLong {
			t.Errorf("Check of %d lengths: %v", len(l), got)
		}
	}
}

// P2.1: all short lists of lengths, and many longer ones that are a code's, or nearly.
func TestCheckMany(t *testing.T) {
	check := func(l []int) {
		if got, want := huff.Check(l), modelCheck(l); got != want {
			t.Fatalf("Check(%v): %v, want %v", l, got, want)
		}
	}
	for n := range 6 {
		everyList(n, 0, 5, check)
	}
	for seed := range 300 {
		d := draws(seed)
		l := d.code(2+d.below(400), d.below(100))
		check(l)
		l[d.below(len(l))] = d.below(16)
		check(l)
	}
}

// P2.3, with the greatest numbers, the greatest total, and one more.
func TestTotal(t *testing.T) {
	const most = 1 << 31
	for _, x := range []struct {
		counts, lengths []int
		want            int
		errno           api.Errno
	}{
		{nil, nil, 0, api.OK}, {nil, []int{}, 0, api.OK}, {[]int{0}, []int{0}, 0, api.OK},
		{[]int{1, 1, 2, 4}, []int{3, 3, 2, 1}, 14, api.OK}, {[]int{1, 1, 2, 4}, times(4, 2), 16, api.OK},
		{[]int{5, 7}, []int{0, 3}, 21, api.OK}, {[]int{0, 7}, []int{9, 0}, 0, api.OK},
		{[]int{most}, []int{1}, most, api.OK}, {[]int{1}, []int{most}, most, api.OK},
		{[]int{most}, []int{1 << 22}, 1 << 53, api.OK}, {[]int{1 << 22}, []int{most}, 1 << 53, api.OK},
		{[]int{most, 0}, []int{1 << 22, most}, 1 << 53, api.OK},
		{[]int{most, 1}, []int{1 << 22, 1}, 0, api.ErrLong}, {[]int{1, most}, []int{1, 1 << 22}, 0, api.ErrLong},
		{[]int{most}, []int{1<<22 + 1}, 0, api.ErrLong}, {[]int{most}, []int{most}, 0, api.ErrLong},
		{times(2, most), times(2, most), 0, api.ErrLong}, {times(4, most), times(4, most), 0, api.ErrLong},
		{times(7, most), times(7, most), 0, api.ErrLong}, {times(4096, most), times(4096, most), 0, api.ErrLong},
		{times(513, 1), times(513, 16), 513 * 16, api.OK}, {times(1<<22, most), times(1<<22, 1), 1 << 53, api.OK},
	} {
		got, errno := huff.Total(x.counts, x.lengths)
		if got != x.want || errno != x.errno {
			t.Errorf("Total of %d: %d, %v, want %d, %v", len(x.counts), got, errno, x.want, x.errno)
		}
	}
}

// P2.3: lists that don't fit, and numbers that may not be, which come ahead of a total that is too great.
func TestTotalRefused(t *testing.T) {
	wrong := func(counts, lengths []int) {
		if got, errno := huff.Total(counts, lengths); got != 0 || errno != api.ErrArg {
			t.Errorf("Total(%v, %v): %d, %v", counts, lengths, got, errno)
		}
	}
	wrong([]int{1}, nil)
	wrong(nil, []int{1})
	wrong([]int{1, 2}, []int{1, 2, 0})
	wrong([]int{1, 2, 0}, []int{1, 2})
	for _, n := range []int{-1, 1<<31 + 1, 1 << 32, math.MinInt, math.MaxInt} {
		wrong([]int{n}, []int{0})
		wrong([]int{0}, []int{n})
		wrong([]int{1 << 31, 5, n}, []int{1 << 31, 5, 5})
		wrong([]int{1 << 31, 5, 5}, []int{1 << 31, 5, n})
	}
}
