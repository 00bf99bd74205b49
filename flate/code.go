package flate

import (
	"gridiron/bitio"
	"gridiron/huff"
)

// code puts symbols. It is made of what this package has counted or knows, so that huff finds nothing wrong with it.
type code struct {
	lengths []int
	bits    []uint32
}

// newCode is the code that has these lengths.
func newCode(lengths []int) code {
	bits, _ := huff.Codes(lengths)
	return code{lengths, bits}
}

// shortCode is the code that is the shortest one for symbols that stand so often.
func shortCode(counts []int, most int) code {
	lengths, _ := huff.Lengths(counts, most)
	return newCode(lengths)
}

// put puts a symbol.
func (c code) put(w *bitio.Writer, symbol int) {
	huff.Put(w, c.lengths, c.bits, symbol)
}

// total is how many bits symbols take that stand so often.
func (c code) total(counts []int) int {
	total, _ := huff.Total(counts, c.lengths)
	return total
}

// codes are the two codes of a block.
type codes struct {
	literals  code
	distances code
}

// fixedCodes are the codes of a fixed block.
func fixedCodes() codes {
	return codes{newCode(fixedLiteralLengths()), newCode(fixedDistanceLengths())}
}

// putToken puts a literal, or a match.
func (c codes) putToken(w *bitio.Writer, t token) {
	if !t.isMatch() {
		c.literals.put(w, t.value)
		return
	}
	length, distance := lengthSymbol(t.value), distanceSymbol(t.distance)
	c.literals.put(w, firstMatch+length)
	lengthSpan(length).put(w, t.value)
	c.distances.put(w, distance)
	distanceSpan(distance).put(w, t.distance)
}

// put puts the bits by which a number of the span is told from its others.
func (s span) put(w *bitio.Writer, number int) {
	w.Bits(uint32(number-s.first), s.bits)
}
