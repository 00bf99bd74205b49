// Package bitio reads and writes bits in bytes as DEFLATE lays them: the lowest bit of a byte first, numbers with their lowest bit first. It is layer 1: see shared/doc/01-bitio.md.
package bitio

// mostBits is how many bits a number has at most.
const mostBits = 32

// Reverse is the number of v's lowest n bits in the other order; 0, if n is not from 0 to 32.
func Reverse(v uint32, n int) uint32 {
	if !countable(n) {
		return 0
	}
	var turned uint32
	for k := range n {
		turned |= bitOf(v, n-1-k) << k
	}
	return turned
}

// countable tells whether a number may have n bits.
func countable(n int) bool {
	return n >= 0 && n <= mostBits
}

// bitOf is the bit k of v, as 0 or 1.
func bitOf(v uint32, k int) uint32 {
	return v >> k & 1
}

// wholeBytes is how many bytes so many bits take, one that is begun counted whole.
func wholeBytes(bits int) int {
	return (bits + 7) / 8
}
