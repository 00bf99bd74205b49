package bitio

import "gridiron/api"

// Reader reads the bits of bytes from the front. Its zero value is no reader: NewReader makes one.
type Reader struct {
	made  bool
	bytes []byte
	at    int // the bit at which it stands
}

// NewReader is a reader that stands at the first bit of b.
func NewReader(b []byte) *Reader {
	own := make([]byte, len(b))
	copy(own, b)
	return &Reader{made: true, bytes: own}
}

// Bits is the number of the next n bits, behind which the reader stands then.
func (r *Reader) Bits(n int) (uint32, api.Errno) {
	if !r.ready() {
		return 0, api.ErrMade
	}
	if !countable(n) {
		return 0, api.ErrBits
	}
	if n > r.Left() {
		return 0, api.ErrEnds
	}
	v := r.ahead(n)
	r.at += n
	return v, api.OK
}

// Peek is the number of the next n bits, with noughts behind the end; the reader stays.
func (r *Reader) Peek(n int) (uint32, api.Errno) {
	if !r.ready() {
		return 0, api.ErrMade
	}
	if !countable(n) {
		return 0, api.ErrBits
	}
	return r.ahead(n), api.OK
}

// Align goes to the next whole byte, if the reader stands within one.
func (r *Reader) Align() {
	if r.ready() {
		r.at = 8 * r.Used()
	}
}

// Bytes is the next n whole bytes, behind which the reader stands then.
func (r *Reader) Bytes(n int) ([]byte, api.Errno) {
	if !r.ready() {
		return nil, api.ErrMade
	}
	if n < 0 {
		return nil, api.ErrBits
	}
	from := r.Used()
	if n > len(r.bytes)-from {
		return nil, api.ErrEnds
	}
	out := make([]byte, n)
	copy(out, r.bytes[from:])
	r.at = 8 * (from + n)
	return out, api.OK
}

// Left is how many bits are left.
func (r *Reader) Left() int {
	if !r.ready() {
		return 0
	}
	return 8*len(r.bytes) - r.at
}

// Used is how many bytes there are up to where the reader stands, one that is begun counted whole.
func (r *Reader) Used() int {
	if !r.ready() {
		return 0
	}
	return wholeBytes(r.at)
}

// ready tells whether NewReader made it.
func (r *Reader) ready() bool {
	return r != nil && r.made
}

// ahead is the number of the next n bits, with noughts behind the end.
func (r *Reader) ahead(n int) uint32 {
	var v uint32
	for k := range min(n, r.Left()) {
		i := r.at + k
		v |= bitOf(uint32(r.bytes[i/8]), i%8) << k
	}
	return v
}
