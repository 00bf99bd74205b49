package flate_test

import (
	"bytes"
	"fmt"
	"slices"

	"gridiron/api"
)

// draws is a row of numbers that looks like none, the same one for the same beginning.
type draws uint64

func (d *draws) below(n int) int {
	*d = *d*6364136223846793005 + 1442695040888963407
	return int(uint64(*d) >> 33 % uint64(n))
}

// bytes is n bytes of so many kinds, from 0 on.
func (d *draws) bytes(n, kinds int) []byte {
	b := make([]byte, n)
	for i := range b {
		b[i] = byte(d.below(kinds))
	}
	return b
}

// lengths is the lengths of a code of so many symbols (2 or more) that leaves no bits without one, and of noughts among them.
func (d *draws) lengths(symbols, noughts int) []int {
	l := []int{1, 1}
	for len(l) < symbols {
		i := d.below(len(l))
		if d.below(3) == 0 {
			i = len(l) - 1 // deep codes, too
		}
		if l[i] < api.MaxBits {
			l[i]++
			l = append(l, l[i])
		}
	}
	l = append(l, make([]int, noughts)...)
	for i := range l {
		k := i + d.below(len(l)-i)
		l[i], l[k] = l[k], l[i]
	}
	return l
}

// stream is bits, one by one, as the format lays them.
type stream struct{ bits []byte }

// num puts a number of n bits, the lowest one first.
func (s *stream) num(v, n int) *stream {
	for k := range n {
		s.bits = append(s.bits, byte(v>>k&1))
	}
	return s
}

// code puts bits as the text has them.
func (s *stream) code(text string) *stream {
	for _, c := range text {
		s.bits = append(s.bits, byte(c-'0'))
	}
	return s
}

// fill puts a bit up to a whole byte.
func (s *stream) fill(bit int) *stream {
	for len(s.bits)%8 != 0 {
		s.num(bit, 1)
	}
	return s
}

// raw puts bytes.
func (s *stream) raw(b ...byte) *stream {
	for _, c := range b {
		s.num(int(c), 8)
	}
	return s
}

// head puts what stands ahead of each block.
func (s *stream) head(final, kind int) *stream {
	return s.num(final, 1).num(kind, 2)
}

// stored puts a stored block.
func (s *stream) stored(final int, b []byte) *stream {
	return s.head(final, api.BStored).fill(0).num(len(b), 16).num(^len(b), 16).raw(b...)
}

// bytes is the bits as bytes, filled up with bits of 0.
func (s *stream) bytes() []byte {
	b := make([]byte, (len(s.bits)+7)/8)
	for i, bit := range s.bits {
		b[i/8] |= bit << (i % 8)
	}
	return b
}

// fixedText is the code of a symbol of the fixed code, by RFC 1951, 3.2.6.
func fixedText(symbol int) string {
	switch {
	case symbol < 144:
		return fmt.Sprintf("%08b", 0b00110000+symbol)
	case symbol < 256:
		return fmt.Sprintf("%09b", 0b110010000+symbol-144)
	case symbol < 280:
		return fmt.Sprintf("%07b", symbol-256)
	}
	return fmt.Sprintf("%08b", 0b11000000+symbol-280)
}

// symbol puts a symbol of the fixed code.
func (s *stream) symbol(symbol int) *stream {
	return s.code(fixedText(symbol))
}

// far puts a distance's symbol of the fixed code.
func (s *stream) far(symbol int) *stream {
	return s.code(fmt.Sprintf("%05b", symbol))
}

// literals puts bytes by the fixed code.
func (s *stream) literals(text string) *stream {
	for _, c := range []byte(text) {
		s.symbol(int(c))
	}
	return s
}

// match puts a match by the fixed code.
func (s *stream) match(length, distance int) *stream {
	k, d := rowOf(lengthRows(), length), rowOf(distanceRows(), distance)
	return s.symbol(257+k).num(length-lengthRows()[k].first, lengthRows()[k].bits).
		far(d).num(distance-distanceRows()[d].first, distanceRows()[d].bits)
}

// row is a symbol's first number, and how many bits come behind it.
type row struct{ first, bits int }

// lengthRows is what the symbols from 257 on say, as the chapter lists it.
func lengthRows() []row {
	var rows []row
	for length := 3; length <= 10; length++ {
		rows = append(rows, row{length, 0})
	}
	for i, first := range []int{11, 19, 35, 67, 131} {
		for k := range 4 {
			rows = append(rows, row{first + k*(2<<i), i + 1})
		}
	}
	return append(rows, row{258, 0})
}

// distanceRows is what the distances' symbols say, as the chapter lists it.
func distanceRows() []row {
	rows := []row{{1, 0}, {2, 0}, {3, 0}, {4, 0}}
	two := 2
	for k := 1; k <= 13; k++ {
		rows = append(rows, row{2*two + 1, k}, row{3*two + 1, k})
		two *= 2
	}
	return rows
}

// rowOf is the last row that begins at or ahead of a number.
func rowOf(rows []row, number int) int {
	k := len(rows) - 1
	for rows[k].first > number {
		k--
	}
	return k
}

// texts are the codes of a code with these lengths, dealt out by length and symbol.
func texts(lengths []int) []string {
	out := make([]string, len(lengths))
	next, before := 0, 0
	for length := 1; length <= api.MaxBits; length++ {
		next <<= length - before
		before = length
		for symbol, l := range lengths {
			if l == length {
				out[symbol] = fmt.Sprintf("%0*b", length, next)
				next++
			}
		}
	}
	return out
}

// order is that of the lengths of the code of lengths.
func order() []int {
	return []int{16, 17, 18, 0, 8, 7, 9, 6, 10, 5, 11, 4, 12, 3, 13, 2, 14, 1, 15}
}

// allSteps is a code of lengths that has each symbol: 13 of 4 bits, 6 of 5.
func allSteps() []int {
	return slices.Concat(times(13, 4), times(6, 5))
}

// times is n numbers v.
func times(n, v int) []int {
	return slices.Repeat([]int{v}, n)
}

// step is a symbol of the code of lengths, and the number behind it.
type step struct{ symbol, more int }

// dynamic puts the beginning of a dynamic block, up to the lengths of the code of lengths, of which just so many are told.
func (s *stream) dynamic(literals, distances, told int, steps []int) *stream {
	s.head(1, api.BDynamic).num(literals-257, 5).num(distances-1, 5).num(told-4, 4)
	for i := range told {
		s.num(steps[order()[i]], 3)
	}
	return s
}

// steps puts symbols of the code of lengths that allSteps says.
func (s *stream) steps(l ...step) *stream {
	codes := texts(allSteps())
	for _, x := range l {
		s.code(codes[x.symbol])
		switch x.symbol {
		case 16:
			s.num(x.more, 2)
		case 17:
			s.num(x.more, 3)
		case 18:
			s.num(x.more, 7)
		}
	}
	return s
}

// each is a step for each length.
func each(lengths ...int) []step {
	var l []step
	for _, length := range lengths {
		l = append(l, step{length, 0})
	}
	return l
}

// block puts a dynamic block's beginning that tells all lengths one by one.
func (s *stream) block(literals, distances []int) *stream {
	return s.dynamic(len(literals), len(distances), 19, allSteps()).steps(each(slices.Concat(literals, distances)...)...)
}

// some is n lengths of 0, but for those that are set.
func some(n int, set map[int]int) []int {
	l := make([]int, n)
	for symbol, length := range set {
		l[symbol] = length
	}
	return l
}

// spare is b with room behind its end, in which something stands.
func spare(b []byte) []byte {
	return append(bytes.Clone(b), 77, 77, 77)[:len(b)]
}
