package flate

import (
	"gridiron/api"
	"gridiron/huff"
)

// dynamic reads a block of codes that it tells itself, behind its kind.
func (f *inflater) dynamic() api.Errno {
	head, errno := f.bits(14)
	if errno != api.OK {
		return errno
	}
	literals, distances, told := head&31+leastLiterals, head>>5&31+leastDistances, head>>10+leastTold
	if literals > mostLiterals || distances > mostDistances {
		return api.ErrBlock
	}
	code, errno := f.codeOfLengths(told)
	if errno != api.OK {
		return errno
	}
	lengths, errno := f.lengths(code, literals+distances)
	if errno != api.OK {
		return errno
	}
	if lengths[endOfBlock] == 0 {
		return api.ErrBlock
	}
	codes, errno := newDecoders(lengths[:literals], lengths[literals:])
	if errno != api.OK {
		return errno
	}
	return f.symbols(codes)
}

// codeOfLengths reads the code of lengths, of which so many lengths are told.
func (f *inflater) codeOfLengths(told int) (*huff.Decoder, api.Errno) {
	lengths := make([]int, mostTold)
	for i := range told {
		length, errno := f.bits(3)
		if errno != api.OK {
			return nil, errno
		}
		lengths[toldOrder[i]] = length
	}
	code, errno := huff.NewDecoder(lengths)
	if errno != api.OK {
		return nil, api.ErrCode
	}
	return code, api.OK
}

// lengths reads so many lengths by their code.
func (f *inflater) lengths(code *huff.Decoder, count int) ([]int, api.Errno) {
	lengths := make([]int, 0, count)
	for len(lengths) < count {
		symbol, errno := f.symbol(code)
		if errno != api.OK {
			return nil, errno
		}
		length, times := symbol, 1
		if symbol >= repeatLast {
			length, times, errno = f.repetition(symbol, lengths)
		}
		if errno != api.OK {
			return nil, errno
		}
		if times > count-len(lengths) {
			return nil, api.ErrBlock
		}
		for range times {
			lengths = append(lengths, length)
		}
	}
	return lengths, api.OK
}

// repetition reads how often a length comes once more behind those that are there, and tells which one.
func (f *inflater) repetition(symbol int, lengths []int) (int, int, api.Errno) {
	length := 0
	if symbol == repeatLast {
		if len(lengths) == 0 {
			return 0, 0, api.ErrBlock
		}
		length = lengths[len(lengths)-1]
	}
	times, errno := f.number(repeatSpan(symbol))
	return length, times, errno
}
