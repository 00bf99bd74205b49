package zip

// turnedPolynomial is the polynomial 04C11DB7 with its bits in the order in which they are read.
const turnedPolynomial = 0xEDB88320

// Sum is the CRC-32 of bytes.
func Sum(b []byte) uint32 {
	steps := byteSteps()
	sum := ^uint32(0)
	for _, c := range b {
		sum = sum>>8 ^ steps[byte(sum)^c]
	}
	return ^sum
}

// byteSteps are the remainders of each byte: eight steps at once for what a sum is gone on with.
func byteSteps() [256]uint32 {
	var steps [256]uint32
	for first := range uint32(256) {
		rest := first
		for range 8 {
			// all ones, if the bit that falls out is 1
			fallen := -(rest & 1)
			rest = rest>>1 ^ turnedPolynomial&fallen
		}
		steps[first] = rest
	}
	return steps
}
