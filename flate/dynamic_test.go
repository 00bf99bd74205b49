package flate_test

import (
	"strings"
	"testing"

	"gridiron/api"
)

// ends is lengths of literals by which x is 0 and the end is 1.
func ends(n int) []int {
	return some(n, map[int]int{'x': 1, 256: 1})
}

// P3.1: dynamic blocks, with deep codes of all literals, lengths and distances.
func TestDynamic(t *testing.T) {
	draw := draws(11)
	for range 30 {
		literals, distances := draw.lengths(286, 0), draw.lengths(30, 0)
		s := new(stream).block(literals, distances)
		codes, fars := texts(literals), texts(distances)
		var want []byte
		for symbol := range 286 {
			if symbol == 256 {
				continue
			}
			s.code(codes[symbol])
			if symbol < 256 {
				want = append(want, byte(symbol))
				continue
			}
			l, far := lengthRows()[symbol-257], symbol%12
			more := draw.below(1 << l.bits)
			s.num(more, l.bits).code(fars[far]).num(0, distanceRows()[far].bits)
			for range l.first + more {
				want = append(want, want[len(want)-distanceRows()[far].first])
			}
		}
		say(t, "a dynamic block", s.code(codes[256]).bytes(), len(want), string(want))
	}
}

// P3.1: 257 to 286 lengths of literals, and 1 to 30 of distances; none above.
func TestCounts(t *testing.T) {
	for n := 257; n <= 286; n++ {
		say(t, "lengths of literals", new(stream).block(ends(n), []int{0}).code("001").bytes(), 2, "xx")
	}
	for n := 1; n <= 30; n++ {
		say(t, "lengths of distances", new(stream).block(ends(257), make([]int, n)).code("001").bytes(), 2, "xx")
	}
	for _, n := range []int{287, 288} {
		refuse(t, "lengths of literals", new(stream).block(ends(n), []int{0}).code("001").bytes(), 2, api.ErrBlock)
	}
	for _, n := range []int{31, 32} {
		refuse(t, "lengths of distances", new(stream).block(ends(257), make([]int, n)).code("001").bytes(), 2, api.ErrBlock)
		refuse(t, "lengths of both", new(stream).block(ends(286), make([]int, n)).code("001").bytes(), 2, api.ErrBlock)
	}
}

// P3.1, R2: more lengths than there may be are told ahead of all lengths: of those that are not there, and of those that are no code's.
func TestCountsAheadOfLengths(t *testing.T) {
	for _, x := range []struct{ literals, distances int }{{287, 1}, {288, 32}, {257, 31}, {286, 32}} {
		for told := 4; told <= 19; told++ {
			s := new(stream).head(1, api.BDynamic).num(x.literals-257, 5).num(x.distances-1, 5).num(told-4, 4)
			refuse(t, "counts ahead of lengths that are not there", s.bytes(), 9, api.ErrBlock)
			s = new(stream).dynamic(x.literals, x.distances, told, times(19, 1)).raw(make([]byte, 99)...)
			refuse(t, "counts ahead of lengths that are no code's", s.bytes(), 9, api.ErrBlock)
		}
	}
}

// upToEnd tells in three steps the lengths of x (a literal) and of those behind it up to 255.
func upToEnd(length int) []step {
	return []step{{18, 'x' - 11}, {length, 0}, {18, 256 - 'x' - 1 - 11}}
}

// P3.1: as many lengths of the code of lengths as are told; those that do not come are 0.
func TestTold(t *testing.T) {
	s := new(stream).dynamic(257, 1, 4, some(19, map[int]int{0: 1, 18: 1})).code("1").num(127, 7).code("1").num(109, 7)
	refuse(t, "four told, and all lengths 0", s.bytes(), 9, api.ErrBlock)
	// 18: 0, 0: 10, 1: 11; of all that are told the length of 1 is the last but one
	put := func(told int) []byte {
		s := new(stream).dynamic(257, 1, told, some(19, map[int]int{0: 2, 1: 2, 18: 1}))
		s.code("0").num('x'-11, 7).code("11").code("0").num(256-'x'-1-11, 7).code("11").code("10")
		return s.code("001").bytes()
	}
	say(t, "18 told", put(18), 2, "xx")
	say(t, "19 told", put(19), 2, "xx")
	refuse(t, "17 told, which are no code's", put(17), 2, api.ErrCode)
}

// P3.1: a 16 repeats the length ahead, a nought too, and from the literals on into the distances; ahead of all there is none.
func TestRepeatLast(t *testing.T) {
	for more := range 4 {
		s := new(stream).dynamic(257, 1, 19, allSteps()).steps(step{16, more})
		refuse(t, "a 16 ahead of all", s.raw(make([]byte, 99)...).bytes(), 9, api.ErrBlock)
		s = new(stream).dynamic(257, 1, 19, allSteps()).steps(step{0, 0}, step{16, more}, step{18, 'x' - 4 - more - 11})
		s.steps(upToEnd(1)[1:]...).steps(step{1, 0}, step{0, 0})
		say(t, "a 16 behind a nought", s.code("001").bytes(), 2, "xx")
	}
	// x, 256, 257, 258: 00, 01, 10, 11, and so have the distances 0 to 3: a 16 tells 257, 258 and those
	put := func(distances int) []byte {
		s := new(stream).dynamic(259, distances, 19, allSteps()).steps(upToEnd(2)...).steps(step{2, 0}, step{16, 3})
		return s.code("00" + "10" + "00" + "11" + "00" + "01").bytes()
	}
	say(t, "a 16 into four distances", put(4), 9, strings.Repeat("x", 1+3+4))
	refuse(t, "a 16 beyond three distances", put(3), 9, api.ErrBlock)
}

// P3.1, R2: a 16 ahead of all is wrong by its symbol, even if its bits are not there.
func TestRepeatLastWithoutBits(t *testing.T) {
	steps := some(19, map[int]int{16: 5, 17: 5, 18: 4, 0: 4, 8: 4, 7: 4, 9: 4, 6: 4, 10: 4, 5: 4, 11: 4, 4: 3, 12: 3, 3: 3})
	for symbol, errno := range map[int]api.Errno{16: api.ErrBlock, 17: api.ErrShort} {
		s := new(stream).dynamic(257, 1, 14, steps).code(texts(steps)[symbol])
		if len(s.bits) != 3+14+14*3+5 || len(s.bits)%8 != 0 {
			t.Fatal("bits:", len(s.bits))
		}
		refuse(t, "a repetition without its bits", s.bytes(), 9, errno)
	}
}

// P3.1: repetitions up to the number of lengths, and beyond it.
func TestRepeatBeyond(t *testing.T) {
	// up to 256 by plain steps: x and 256 have one bit each; then distances, 30 of them
	begin := func(distances int) *stream {
		return new(stream).dynamic(257, distances, 19, allSteps()).steps(each(ends(257)...)...)
	}
	for _, x := range []struct {
		symbol, least, most int
	}{{17, 3, 10}, {18, 11, 138}} {
		for n := x.least; n <= x.most; n++ {
			s := begin(30).steps(step{x.symbol, n - x.least})
			if n <= 30 {
				say(t, "up to the number of lengths", s.steps(each(times(30-n, 0)...)...).code("001").bytes(), 2, "xx")
			} else {
				refuse(t, "beyond the number of lengths", s.raw(make([]byte, 20)...).bytes(), 2, api.ErrBlock)
			}
		}
	}
	for _, x := range []struct {
		before int
		last   step
		errno  api.Errno
	}{
		{26, step{16, 0}, api.OK}, {26, step{16, 1}, api.ErrBlock}, {23, step{16, 3}, api.OK}, {24, step{16, 3}, api.ErrBlock},
		{28, step{16, 0}, api.ErrBlock}, {27, step{17, 0}, api.OK}, {28, step{17, 0}, api.ErrBlock}, {20, step{17, 7}, api.OK},
		{21, step{17, 7}, api.ErrBlock}, {19, step{18, 0}, api.OK}, {20, step{18, 0}, api.ErrBlock}, {0, step{18, 19}, api.OK},
		{0, step{18, 20}, api.ErrBlock}, {29, step{18, 127}, api.ErrBlock}, {29, step{0, 0}, api.OK},
	} {
		// a 16 needs a nought ahead of it, or it repeats the length of 256
		ahead := each(times(x.before, 0)...)
		if x.last.symbol == 16 {
			ahead = append(ahead, step{0, 0})
		}
		s := begin(30).steps(ahead...).steps(x.last)
		if x.errno == api.OK {
			say(t, "up to the number of lengths", s.code("001").bytes(), 2, "xx")
		} else {
			refuse(t, "beyond the number of lengths", s.raw(make([]byte, 20)...).bytes(), 2, x.errno)
		}
	}
}

// P3.1, R2: no length for 256, ahead of what is wrong with the codes.
func TestNoEnd(t *testing.T) {
	for _, x := range []struct{ literals, distances []int }{
		{some(257, map[int]int{'x': 1, 'y': 1}), []int{0}},
		{some(257, map[int]int{'x': 1}), []int{1}},
		{make([]int, 257), []int{0}},
		{make([]int, 286), make([]int, 30)},
		{some(286, map[int]int{255: 1, 257: 1}), []int{1, 1}},
		{some(257, map[int]int{'x': 2, 'y': 2}), []int{0}},
		{some(257, map[int]int{'x': 1, 'y': 1, 'z': 1}), []int{0}},
		{some(257, map[int]int{'x': 1, 'y': 1}), []int{1, 1, 1}},
	} {
		refuse(t, "no length for 256", new(stream).block(x.literals, x.distances).raw(0, 0, 0).bytes(), 9, api.ErrBlock)
		refuse(t, "no length for 256, and the end", new(stream).block(x.literals, x.distances).bytes(), 9, api.ErrBlock)
	}
}

// P3.1: lengths that are no code's, of each of the three codes; they are wrong as soon as they are whole.
func TestNoCodes(t *testing.T) {
	for _, steps := range [][]int{
		some(19, map[int]int{0: 1, 1: 1, 18: 1}), some(19, map[int]int{0: 1, 18: 2}), some(19, map[int]int{0: 2}), some(19, map[int]int{15: 7}),
		times(19, 7), times(19, 1), times(19, 4),
	} {
		refuse(t, "a code of lengths", new(stream).dynamic(257, 1, 19, steps).bytes(), 9, api.ErrCode)
		refuse(t, "a code of lengths", new(stream).dynamic(257, 1, 19, steps).raw(make([]byte, 99)...).bytes(), 9, api.ErrCode)
	}
	for _, literals := range [][]int{
		some(257, map[int]int{256: 2}), some(257, map[int]int{256: 15}), some(257, map[int]int{'x': 1, 256: 2}), some(257, map[int]int{'x': 1, 'y': 1, 256: 1}),
		some(257, map[int]int{'x': 1, 'y': 1, 256: 15}), times(286, 8), times(286, 9),
	} {
		for _, distances := range [][]int{{0}, {1}, {1, 1}, {1, 1, 1}, {2}} {
			refuse(t, "a code of literals", new(stream).block(literals, distances).bytes(), 9, api.ErrCode)
			refuse(t, "a code of literals", new(stream).block(literals, distances).raw(0, 0).bytes(), 9, api.ErrCode)
		}
	}
	for _, distances := range [][]int{{2}, {0, 15}, {1, 2}, {1, 1, 1}, times(30, 4), times(30, 5)} {
		refuse(t, "a code of distances", new(stream).block(ends(257), distances).bytes(), 9, api.ErrCode)
		refuse(t, "a code of distances that nobody asks for", new(stream).block(ends(257), distances).code("001").bytes(), 9, api.ErrCode)
	}
}

// P3.1, R2: codes of literals and distances are looked at when all lengths are there, not ahead of that.
func TestCodesWhenWhole(t *testing.T) {
	over := some(257, map[int]int{0: 1, 1: 1, 2: 1, 256: 1})
	whole := new(stream).block(over, []int{1, 1, 1})
	b := whole.bytes()
	for n := range b {
		refuse(t, "lengths that are not all there", b[:n], 9, api.ErrShort)
	}
	refuse(t, "all lengths", b, 9, api.ErrCode)
	s := new(stream).dynamic(257, 1, 19, allSteps()).steps(each(over...)...).steps(step{18, 0})
	refuse(t, "a repetition beyond, and no code", s.bytes(), 9, api.ErrBlock)
}

// P3.1: a code of lengths of one symbol, and of none, of which a bit is read first.
func TestOneStepOrNone(t *testing.T) {
	one := func(symbol int) *stream {
		return new(stream).dynamic(257, 1, 19, some(19, map[int]int{symbol: 1}))
	}
	refuse(t, "18 alone: all of them 0", one(18).code("0").num(127, 7).code("0").num(109, 7).bytes(), 9, api.ErrBlock)
	refuse(t, "18 alone, a bit of 1", one(18).code("0").num(127, 7).code("1").bytes(), 9, api.ErrCode)
	refuse(t, "8 alone: 257 of 8 bits", one(8).code(strings.Repeat("0", 258)).bytes(), 9, api.ErrCode)
	refuse(t, "9 alone: 257 of 9 bits", one(9).code(strings.Repeat("0", 258)).bytes(), 9, api.ErrCode)
	refuse(t, "16 alone", one(16).code("0").raw(0).bytes(), 9, api.ErrBlock)
	refuse(t, "0 alone, a bit of 1", one(0).code("0001").bytes(), 9, api.ErrCode)
	refuse(t, "0 alone, and the end", one(0).bytes(), 9, api.ErrShort)
	// 3 + 14 + 5 * 3 = 32 bits
	none := new(stream).dynamic(257, 1, 5, make([]int, 19))
	refuse(t, "none, and no bit", none.bytes(), 9, api.ErrShort)
	refuse(t, "none, and bits of 0", none.raw(0).bytes(), 9, api.ErrCode)
	refuse(t, "none, and bits of 1", new(stream).dynamic(257, 1, 5, make([]int, 19)).raw(255).bytes(), 9, api.ErrCode)
}

// P3.1: a code of literals of one symbol, which is the end.
func TestOneLiteral(t *testing.T) {
	alone := some(257, map[int]int{256: 1})
	say(t, "the end alone", new(stream).block(alone, []int{0}).code("0").bytes(), 9, "")
	refuse(t, "the end alone, a bit of 1", new(stream).block(alone, []int{0}).code("1").bytes(), 9, api.ErrCode)
}

// P3.1: codes of distances of one symbol, and of none, of which a bit is read first.
func TestOneDistanceOrNone(t *testing.T) {
	// x: 0, 256: 10, 257: 11
	literals := some(258, map[int]int{'x': 1, 256: 2, 257: 2})
	put := func(distances []int) *stream {
		return new(stream).block(literals, distances).code("0" + "0" + "11")
	}
	for symbol, distance := range []int{1, 2} {
		distances := some(symbol+1, map[int]int{symbol: 1})
		say(t, "one distance", put(distances).code("0"+"10").bytes(), 5, "xxxxx")
		refuse(t, "one distance, a bit of 1", put(distances).code("1").bytes(), 5, api.ErrCode)
		if distance != distanceRows()[symbol].first {
			t.Error("distance", symbol)
		}
	}
	refuse(t, "one distance that is too far", put(some(30, map[int]int{2: 1})).code("0").bytes(), 5, api.ErrFar)
	for n := range 30 {
		none := make([]int, n+1)
		say(t, "no distance, and no match", new(stream).block(literals, none).code("0"+"10").bytes(), 5, "x")
		for _, bit := range []string{"0", "1"} {
			refuse(t, "no distance, and a match", put(none).code(bit).fill(0).bytes(), 5, api.ErrCode)
		}
	}
	// the bytes end with the match's symbol
	s := new(stream).block(literals, make([]int, 2)).code("0000" + "11")
	if len(s.bits)%8 != 0 {
		t.Fatal("bits:", len(s.bits))
	}
	refuse(t, "no distance, and no bit", s.bytes(), 9, api.ErrShort)
	refuse(t, "no distance, and bits", s.raw(0).bytes(), 9, api.ErrCode)
}
