package huff_test

import (
	"container/heap"
	"math"
	"slices"
	"testing"

	"gridiron/api"
	"gridiron/huff"
)

// checkLengths fails, if Lengths does not answer a code's lengths that are none above most, and answers their total.
func checkLengths(t *testing.T, counts []int, most int) int {
	t.Helper()
	lengths, errno := huff.Lengths(counts, most)
	if errno != api.OK || len(lengths) != len(counts) {
		t.Fatalf("Lengths(%v, %d): %v, %v", counts, most, lengths, errno)
	}
	if errno := huff.Check(lengths); errno != api.OK {
		t.Fatalf("Lengths(%v, %d): %v, which is no code's: %v", counts, most, lengths, errno)
	}
	total := 0
	for symbol, length := range lengths {
		if length < 0 || length > most || (length == 0) != (counts[symbol] == 0) {
			t.Fatalf("Lengths(%v, %d): %v, symbol %d", counts, most, lengths, symbol)
		}
		total += counts[symbol] * length
	}
	if got, errno := huff.Total(counts, lengths); got != total || errno != api.OK {
		t.Fatalf("Total(%v, %v): %d, %v, want %d", counts, lengths, got, errno, total)
	}
	return total
}

// every tries each lengths from 1 to most for the counts above 0, and tells the least total of those that are a code's.
func every(counts []int, most int) int {
	var some []int
	for _, count := range counts {
		if count > 0 {
			some = append(some, count)
		}
	}
	least := math.MaxInt
	everyList(len(some), 1, most, func(lengths []int) {
		if modelCheck(lengths) != api.OK {
			return
		}
		total := 0
		for symbol, length := range lengths {
			total += length * some[symbol]
		}
		least = min(least, total)
	})
	return least
}

// deeper is the least total of a tree whose levels are gone through from its root: so many nodes are open at a level, some become leaves, the most frequent symbols first, and the rest have two each.
func deeper(counts []int, most int) int {
	type state struct{ level, done, open int }
	sorted := slices.DeleteFunc(slices.Clone(counts), func(n int) bool { return n == 0 })
	slices.SortFunc(sorted, func(a, b int) int { return b - a })
	known := map[state]int{}
	var least func(s state) int
	least = func(s state) int {
		left := len(sorted) - s.done
		if s.open == left {
			total := 0
			for _, count := range sorted[s.done:] {
				total += s.level * count
			}
			return total
		}
		if s.open > left || s.open == 0 || s.level == most {
			return math.MaxInt
		}
		if total, ok := known[s]; ok {
			return total
		}
		best, leaves := math.MaxInt, 0
		for k := range s.open {
			rest := least(state{s.level + 1, s.done + k, 2 * (s.open - k)})
			if rest != math.MaxInt {
				best = min(best, leaves+rest)
			}
			leaves += s.level * sorted[s.done+k]
		}
		known[s] = best
		return best
	}
	return least(state{1, 0, 2})
}

// ints is a heap of numbers.
type ints []int

func (h ints) Len() int           { return len(h) }
func (h ints) Less(i, k int) bool { return h[i] < h[k] }
func (h ints) Swap(i, k int)      { h[i], h[k] = h[k], h[i] }
func (h *ints) Push(x any)        { *h = append(*h, x.(int)) }
func (h *ints) Pop() any {
	last := (*h)[len(*h)-1]
	*h = (*h)[:len(*h)-1]
	return last
}

// unlimited is Huffman's total, if lengths have no limit.
func unlimited(counts []int) int {
	h := slices.DeleteFunc(slices.Clone(ints(counts)), func(n int) bool { return n == 0 })
	heap.Init(&h)
	total := 0
	for h.Len() > 1 {
		sum := heap.Pop(&h).(int) + heap.Pop(&h).(int)
		total += sum
		heap.Push(&h, sum)
	}
	return total
}

// P2.2, the chapter's examples.
func TestLengthsExamples(t *testing.T) {
	counts := []int{1, 1, 2, 4}
	if total := checkLengths(t, counts, 15); total != 14 {
		t.Error("with 15:", total)
	}
	if lengths, errno := huff.Lengths(counts, 2); !slices.Equal(lengths, times(4, 2)) || errno != api.OK {
		t.Error("with 2:", lengths, errno)
	}
	if lengths, errno := huff.Lengths([]int{5}, 15); !slices.Equal(lengths, []int{1}) || errno != api.OK {
		t.Error("of 5:", lengths, errno)
	}
	if lengths, errno := huff.Lengths([]int{1, 1, 1}, 1); lengths != nil || errno != api.ErrHuffOver {
		t.Error("of 1, 1, 1 with 1:", lengths, errno)
	}
}

// P2.2: no symbol, one symbol, two of them, with each limit and the least and greatest counts.
func TestLengthsOfFew(t *testing.T) {
	for most := 1; most <= 15; most++ {
		for _, count := range []int{1, 2, 1 << 30, 1 << 31} {
			for _, x := range []struct{ counts, want []int }{
				{nil, nil}, {[]int{}, nil}, {[]int{0}, []int{0}}, {times(512, 0), times(512, 0)},
				{[]int{count}, []int{1}}, {[]int{0, count, 0}, []int{0, 1, 0}},
				{append(times(511, 0), count), append(times(511, 0), 1)},
				{[]int{count, 1}, []int{1, 1}}, {[]int{1 << 31, 0, 0, count}, []int{1, 0, 0, 1}},
			} {
				got, errno := huff.Lengths(x.counts, most)
				if !slices.Equal(got, x.want) || errno != api.OK {
					t.Fatalf("Lengths(%v, %d): %v, %v", x.counts, most, got, errno)
				}
			}
		}
	}
}

// P2.2: just 2^most counts above 0 get most bits each, one more is refused; noughts don't count.
func TestLengthsRoom(t *testing.T) {
	for most := 1; most <= 9; most++ {
		full := times(1<<most, 1)
		full[0], full[1] = 1<<31, 1000
		got, errno := huff.Lengths(full, most)
		if !slices.Equal(got, times(1<<most, most)) || errno != api.OK {
			t.Fatalf("%d symbols with %d: %v, %v", len(full), most, got, errno)
		}
		if most == 9 {
			break
		}
		checkLengths(t, append(full, 0, 0), most)
		if got, errno := huff.Lengths(append(full, 0, 1), most); got != nil || errno != api.ErrHuffOver {
			t.Errorf("%d symbols with %d: %v, %v", len(full)+1, most, got, errno)
		}
		checkLengths(t, append(full, 0, 1), most+1)
	}
	if got, errno := huff.Lengths(times(512, 7), 8); got != nil || errno != api.ErrHuffOver {
		t.Error("512 symbols with 8:", got, errno)
	}
}

// P2.2: what may not be, the first thing first.
func TestLengthsRefused(t *testing.T) {
	wrong := func(counts []int, most int, want api.Errno) {
		t.Helper()
		if got, errno := huff.Lengths(counts, most); got != nil || errno != want {
			t.Errorf("Lengths of %d with %d: %v, %v, want %v", len(counts), most, got, errno, want)
		}
	}
	for _, most := range []int{0, -1, 16, 17, math.MinInt, math.MaxInt} {
		wrong(nil, most, api.ErrArg)
		wrong([]int{1}, most, api.ErrArg)
		wrong(times(512, 1), most, api.ErrArg)
		wrong(times(513, 1), most, api.ErrLong)
	}
	for _, count := range []int{-1, 1<<31 + 1, 1 << 32, math.MinInt, math.MaxInt} {
		wrong([]int{count}, 15, api.ErrArg)
		wrong([]int{1, 1, 1, count}, 1, api.ErrArg)
		wrong([]int{count, 1, 1, 1}, 1, api.ErrArg)
		wrong(append(times(512, 1), count), 15, api.ErrLong)
	}
	wrong(times(513, 0), 15, api.ErrLong)
	wrong(times(513, 1), 1, api.ErrLong)
}

// P2.2: totals against every other choice of lengths.
func TestLengthsLeastOfAll(t *testing.T) {
	for symbols := 2; symbols <= 4; symbols++ {
		everyList(symbols, 0, 6, func(counts []int) {
			if len(slices.DeleteFunc(slices.Clone(counts), func(n int) bool { return n == 0 })) < 2 {
				return
			}
			for most := 2; most <= 4; most++ {
				if got, want := checkLengths(t, counts, most), every(counts, most); got != want {
					t.Fatalf("Lengths(%v, %d): total %d, want %d", counts, most, got, want)
				}
			}
		})
	}
	for seed := range 60 {
		d := draws(seed)
		counts := []int{}
		for range 5 + d.below(3) {
			counts = append(counts, d.below(1<<d.below(12)))
		}
		counts = append(counts, 1, 2)
		for most := 4; most <= 5; most++ {
			if got, want := checkLengths(t, counts, most), deeper(counts, most); got != want {
				t.Fatalf("Lengths(%v, %d): total %d, want %d", counts, most, got, want)
			}
		}
		some := counts[len(counts)-6:]
		if got, want := checkLengths(t, some, 5), every(some, 5); got != want {
			t.Fatalf("Lengths(%v, 5): total %d, want %d", some, got, want)
		}
	}
}

// P2.2: totals of more symbols, and of counts that grow so fast that the limit tells.
func TestLengthsLeastOfMany(t *testing.T) {
	for seed := range 120 {
		d := draws(seed)
		counts := []int{1, 1}
		for k := 2; k < 10+seed%30; k++ {
			switch seed % 3 {
			case 0:
				counts = append(counts, min(1<<31, counts[k-1]+counts[k-2]))
			case 1:
				counts = append(counts, min(1<<31, 1<<k))
			default:
				counts = append(counts, d.below(1<<d.below(31)))
			}
		}
		d.shuffle(counts)
		for _, most := range []int{6, 7, 9, 12, 15} {
			if got, want := checkLengths(t, counts, most), deeper(counts, most); got != want {
				t.Fatalf("Lengths(%v, %d): total %d, want %d", counts, most, got, want)
			}
		}
	}
}

// P2.2: 512 symbols, whose counts are so near to each other that the limit does not tell.
func TestLengthsOfAllSymbols(t *testing.T) {
	for seed := range 20 {
		d := draws(seed)
		counts := make([]int, 512)
		for i := range counts {
			counts[i] = 100 + d.below(1+seed*seed*10)
		}
		if got, want := checkLengths(t, counts, 15), unlimited(counts); got != want {
			t.Fatalf("seed %d: total %d, want %d", seed, got, want)
		}
	}
	if total := checkLengths(t, times(512, 1<<31), 15); total != 9<<40 {
		t.Error("the greatest counts:", total)
	}
}

// P2.2: 512 symbols with counts of all sizes have a code's lengths with each limit, and a greater limit has no greater total.
func TestLengthsOfAllLimits(t *testing.T) {
	for seed := range 5 {
		d := draws(seed)
		counts := make([]int, 512)
		for i := range counts {
			counts[i] = 1 + d.below(1<<d.below(31))
		}
		last := math.MaxInt
		for most := 9; most <= 15; most++ {
			total := checkLengths(t, counts, most)
			if total > last {
				t.Fatalf("seed %d: total %d with %d, %d with one less", seed, total, most, last)
			}
			last = total
		}
	}
}
