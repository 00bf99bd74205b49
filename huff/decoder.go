package huff

import (
	"gridiron/api"
	"gridiron/bitio"
)

// Decoder reads a code's symbols. Its zero value is no decoder: NewDecoder makes one.
type Decoder struct {
	made    bool
	counts  byLength
	longest int
	symbols []int // those that have a code, in the order of their codes
}

// NewDecoder is a decoder of the code that has these lengths.
func NewDecoder(lengths []int) (*Decoder, api.Errno) {
	if errno := Check(lengths); errno != api.OK {
		return nil, errno
	}
	counts := countLengths(lengths)
	return &Decoder{
		made:    true,
		counts:  counts,
		longest: counts.longest(),
		symbols: inCodeOrder(lengths, counts),
	}, api.OK
}

// inCodeOrder is the symbols that have a code, by length, and of one length by symbol.
func inCodeOrder(lengths []int, counts byLength) []int {
	var place byLength
	for length := 1; length <= api.MaxBits; length++ {
		place[length] = place[length-1] + counts[length-1]
	}
	symbols := make([]int, counts.symbols())
	for symbol, length := range lengths {
		if length > 0 {
			symbols[place[length]] = symbol
			place[length]++
		}
	}
	return symbols
}

// Read is the next symbol, behind whose code the reader stands then.
func (d *Decoder) Read(r *bitio.Reader) (int, api.Errno) {
	if d == nil || !d.made {
		return 0, api.ErrMade
	}
	// asked ahead of the bits, since a decoder without any code takes none
	if _, errno := r.Peek(0); errno != api.OK {
		return 0, errno
	}
	code, first, place := 0, 0, 0
	for length := 1; length <= d.longest; length++ {
		bit, errno := r.Bits(1)
		if errno != api.OK {
			return 0, errno
		}
		code = code<<1 | int(bit)
		first <<= 1
		// codes of one length follow one another, so that the first one tells of all
		if code-first < d.counts[length] {
			return d.symbols[place+code-first], api.OK
		}
		first += d.counts[length]
		place += d.counts[length]
	}
	return 0, api.ErrHuffCode
}
