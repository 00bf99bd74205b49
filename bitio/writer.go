package bitio

import "gridiron/api"

// Writer puts bits one behind the other. Its zero value is no writer: NewWriter makes one.
type Writer struct {
	made  bool
	bytes []byte // as many as the bits take; bits of the last one that are not written yet are 0
	bits  int
}

// NewWriter is a writer without bits.
func NewWriter() *Writer {
	return &Writer{made: true}
}

// Bits puts n bits more, those of v from its lowest on.
func (w *Writer) Bits(v uint32, n int) api.Errno {
	if !w.ready() {
		return api.ErrMade
	}
	if !countable(n) || v>>n != 0 {
		return api.ErrBits
	}
	for k := range n {
		w.put(bitOf(v, k))
	}
	return api.OK
}

// Align puts bits of 0 up to a whole byte.
func (w *Writer) Align() {
	if w.ready() {
		w.bits = 8 * len(w.bytes)
	}
}

// Bytes puts the bytes of b behind the next whole byte.
func (w *Writer) Bytes(b []byte) api.Errno {
	if !w.ready() {
		return api.ErrMade
	}
	w.bytes = append(w.bytes, b...)
	w.Align()
	return api.OK
}

// Len is how many bits there are.
func (w *Writer) Len() int {
	if !w.ready() {
		return 0
	}
	return w.bits
}

// Out is the bits as bytes, the last one filled up with bits of 0.
func (w *Writer) Out() []byte {
	if !w.ready() {
		return nil
	}
	out := make([]byte, len(w.bytes))
	copy(out, w.bytes)
	return out
}

// ready tells whether NewWriter made it.
func (w *Writer) ready() bool {
	return w != nil && w.made
}

// put puts one bit more, which is 0 or 1.
func (w *Writer) put(bit uint32) {
	if w.bits%8 == 0 {
		w.bytes = append(w.bytes, 0)
	}
	w.bytes[w.bits/8] |= byte(bit) << (w.bits % 8)
	w.bits++
}
