package flate

import (
	"gridiron/api"
	"gridiron/bitio"
)

// Stored is b in stored blocks.
func Stored(b []byte) []byte {
	w := bitio.NewWriter()
	putStored(w, b, true)
	return w.Out()
}

// Fixed is b in one block of the fixed codes, byte by byte.
func Fixed(b []byte) []byte {
	w := bitio.NewWriter()
	putHead(w, api.BFixed, true)
	literals := newCode(fixedLiteralLengths())
	for _, c := range b {
		literals.put(w, int(c))
	}
	literals.put(w, endOfBlock)
	return w.Out()
}

// Deflate is deflated bytes that say b, and are few.
func Deflate(b []byte) []byte {
	out := packed(b)
	// blocks that are each the shortest for their bytes may be longer than those of one kind for all
	if storedSize(len(b)) < len(out) {
		out = Stored(b)
	}
	if fixedSize(b) < len(out) {
		out = Fixed(b)
	}
	return out
}

// storedSize is how many bytes Stored answers for n bytes.
func storedSize(n int) int {
	return n + 5*storedBlocks(n)
}

// storedBlocks is how many stored blocks n bytes take.
func storedBlocks(n int) int {
	return max(1, (n+mostStored-1)/mostStored)
}

// fixedSize is how many bytes Fixed answers for b.
func fixedSize(b []byte) int {
	lengths := fixedLiteralLengths()
	bits := 3 + lengths[endOfBlock]
	for _, c := range b {
		bits += lengths[c]
	}
	return (bits + 7) / 8
}

// putHead puts what stands ahead of each block.
func putHead(w *bitio.Writer, kind int, final bool) {
	var last uint32
	if final {
		last = 1
	}
	w.Bits(last, 1)
	w.Bits(uint32(kind), 2)
}

// putStored puts b in stored blocks, of which the last one may be the final one.
func putStored(w *bitio.Writer, b []byte, final bool) {
	for len(b) > mostStored {
		putStoredBlock(w, b[:mostStored], false)
		b = b[mostStored:]
	}
	putStoredBlock(w, b, final)
}

// putStoredBlock puts b, which is no longer than one stored block is.
func putStoredBlock(w *bitio.Writer, b []byte, final bool) {
	putHead(w, api.BStored, final)
	low, high := byte(len(b)), byte(len(b)>>8)
	w.Bytes([]byte{low, high, ^low, ^high})
	w.Bytes(b)
}
