package huff

import (
	"gridiron/api"
	"gridiron/bitio"
)

// Codes are the symbols' bits, as numbers.
func Codes(lengths []int) ([]uint32, api.Errno) {
	if errno := Check(lengths); errno != api.OK {
		return nil, errno
	}
	next := firstCodes(countLengths(lengths))
	codes := make([]uint32, len(lengths))
	for symbol, length := range lengths {
		if length > 0 {
			codes[symbol] = next[length]
			next[length]++
		}
	}
	return codes, api.OK
}

// firstCodes is of each length the number of its first code.
func firstCodes(counts byLength) [api.MaxBits + 1]uint32 {
	var first [api.MaxBits + 1]uint32
	for length := 1; length <= api.MaxBits; length++ {
		first[length] = (first[length-1] + uint32(counts[length-1])) << 1
	}
	return first
}

// Put writes a symbol's code, the highest bit first.
func Put(w *bitio.Writer, lengths []int, codes []uint32, symbol int) api.Errno {
	// no bits change nothing, but tell whether there is a writer
	if errno := w.Bits(0, 0); errno != api.OK {
		return errno
	}
	if len(lengths) != len(codes) || symbol < 0 || symbol >= len(lengths) {
		return api.ErrArg
	}
	length, code := lengths[symbol], codes[symbol]
	if length < 1 || length > api.MaxBits || code>>length != 0 {
		return api.ErrArg
	}
	return w.Bits(bitio.Reverse(code, length), length)
}
