package flate

import (
	"iter"
	"slices"

	"gridiron/api"
	"gridiron/bitio"
	"gridiron/huff"
)

// inflater reads deflated bytes, block by block.
type inflater struct {
	reader *bitio.Reader
	most   int
	said   []byte   // by all blocks so far, at most so many
	always decoders // of the fixed codes, once a block has asked for them
}

// decoders read the symbols of one block.
type decoders struct {
	literals  *huff.Decoder
	distances *huff.Decoder
}

// newDecoders are those of the codes that have these lengths.
func newDecoders(literalLengths, distanceLengths []int) (decoders, api.Errno) {
	literals, errno := huff.NewDecoder(literalLengths)
	if errno != api.OK {
		return decoders{}, api.ErrCode
	}
	distances, errno := huff.NewDecoder(distanceLengths)
	if errno != api.OK {
		return decoders{}, api.ErrCode
	}
	return decoders{literals, distances}, api.OK
}

// newInflater stands at the first block of b.
func newInflater(b []byte, most int) *inflater {
	return &inflater{reader: bitio.NewReader(b), most: most}
}

// blocks goes through the blocks up to the final one, or up to one in which something is wrong, which it tells, too.
func (f *inflater) blocks() iter.Seq2[api.Block, api.Errno] {
	return func(yield func(api.Block, api.Errno) bool) {
		for {
			block, errno := f.block()
			if !yield(block, errno) || errno != api.OK || block.Final {
				return
			}
		}
	}
}

// block reads the next block.
func (f *inflater) block() (api.Block, api.Errno) {
	head, errno := f.bits(3)
	if errno != api.OK {
		return api.Block{}, errno
	}
	before, kind := len(f.said), head>>1
	switch kind {
	case api.BStored:
		errno = f.stored()
	case api.BFixed:
		errno = f.fixed()
	case api.BDynamic:
		errno = f.dynamic()
	default:
		errno = api.ErrBlock
	}
	return api.Block{Kind: kind, Final: head&1 == 1, Bytes: len(f.said) - before}, errno
}

// stored reads a stored block, behind its kind.
func (f *inflater) stored() api.Errno {
	head, errno := f.bytes(4)
	if errno != api.OK {
		return errno
	}
	length, turned := short(head[0], head[1]), short(head[2], head[3])
	if length^turned != mostStored {
		return api.ErrBlock
	}
	if length > f.room() {
		return api.ErrLong
	}
	b, errno := f.bytes(length)
	if errno != api.OK {
		return errno
	}
	f.said = append(f.said, b...)
	return api.OK
}

// short is the number of two bytes.
func short(low, high byte) int {
	return int(low) | int(high)<<8
}

// fixed reads a block of the fixed codes, behind its kind.
func (f *inflater) fixed() api.Errno {
	// made once, since blocks may be many and of a few bits each
	if f.always.literals == nil {
		made, errno := newDecoders(fixedLiteralLengths(), fixedDistanceLengths())
		if errno != api.OK {
			return errno
		}
		f.always = made
	}
	return f.symbols(f.always)
}

// symbols reads symbols up to the block's end.
func (f *inflater) symbols(codes decoders) api.Errno {
read:
	for {
		symbol, errno := f.symbol(codes.literals)
		if errno != api.OK {
			return errno
		}
		switch {
		case symbol == endOfBlock:
			break read
		case symbol < endOfBlock:
			errno = f.literal(byte(symbol))
		default:
			errno = f.match(symbol, codes.distances)
		}
		if errno != api.OK {
			return errno
		}
	}
	return api.OK
}

// literal says one byte.
func (f *inflater) literal(c byte) api.Errno {
	if f.room() < 1 {
		return api.ErrLong
	}
	f.said = append(f.said, c)
	return api.OK
}

// match reads a match, behind its symbol, and says it.
func (f *inflater) match(symbol int, distances *huff.Decoder) api.Errno {
	if symbol > lastMatch {
		return api.ErrCode
	}
	length, errno := f.number(lengthSpan(symbol - firstMatch))
	if errno != api.OK {
		return errno
	}
	far, errno := f.symbol(distances)
	if errno != api.OK {
		return errno
	}
	if far > lastDistance {
		return api.ErrCode
	}
	distance, errno := f.number(distanceSpan(far))
	if errno != api.OK {
		return errno
	}
	if distance > len(f.said) {
		return api.ErrFar
	}
	if length > f.room() {
		return api.ErrLong
	}
	f.repeat(length, distance)
	return api.OK
}

// repeat says once more what was said so far back.
func (f *inflater) repeat(length, distance int) {
	at := len(f.said)
	from, end := at-distance, at+length
	f.said = slices.Grow(f.said, length)[:end]
	// a match that reaches into itself goes on with what was just copied
	for at < end {
		at += copy(f.said[at:], f.said[from:at])
	}
}

// last is the last n bytes that were said.
func (f *inflater) last(n int) []byte {
	return f.said[len(f.said)-n:]
}

// room is how many bytes more may be said.
func (f *inflater) room() int {
	return f.most - len(f.said)
}

// symbol reads a symbol.
func (f *inflater) symbol(d *huff.Decoder) (int, api.Errno) {
	// a decoder without any code asks for no bit, but bits that are not there are the first thing that is wrong
	if f.reader.Left() == 0 {
		return 0, api.ErrShort
	}
	symbol, errno := d.Read(f.reader)
	switch errno {
	case api.OK:
		return symbol, api.OK
	case api.ErrHuffCode:
		return 0, api.ErrCode
	}
	return 0, api.ErrShort
}

// number reads the bits behind a symbol, which say one number of its span.
func (f *inflater) number(s span) (int, api.Errno) {
	more, errno := f.bits(s.bits)
	if errno != api.OK {
		return 0, errno
	}
	return s.first + more, api.OK
}

// bits reads a number of n bits.
func (f *inflater) bits(n int) (int, api.Errno) {
	v, errno := f.reader.Bits(n)
	if errno != api.OK {
		return 0, api.ErrShort
	}
	return int(v), api.OK
}

// bytes reads n bytes, from the next whole one on.
func (f *inflater) bytes(n int) ([]byte, api.Errno) {
	b, errno := f.reader.Bytes(n)
	if errno != api.OK {
		return nil, api.ErrShort
	}
	return b, api.OK
}
