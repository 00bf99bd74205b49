package flate

// The symbols of literals and matches, and of distances.
const (
	endOfBlock   = 256
	firstMatch   = 257 // that of the shortest match
	lastMatch    = 285 // that of the longest match
	lastDistance = 29
)

// How many symbols the fixed codes have; some of them stand for nothing.
const (
	fixedLiterals  = 288
	fixedDistances = 32
)

// How many lengths a dynamic block tells.
const (
	leastLiterals  = 257
	leastDistances = 1
	leastTold      = 4 // of the code of lengths
	mostLiterals   = 286
	mostDistances  = 30
	mostTold       = 19
	mostToldBits   = 7 // such a length is told by three bits
)

// The symbols of the code of lengths that repeat something; those below are lengths themselves.
const (
	repeatLast   = 16
	repeatNought = 17
	repeatLong   = 18 // noughts, and more of them
)

// What a match may be.
const (
	leastMatch = 3
	mostMatch  = 258
	window     = 1 << 15 // how far back it may reach
)

// mostStored is how many bytes a stored block has at most.
const mostStored = 1<<16 - 1

// toldOrder is the order in which the lengths of the code of lengths come.
var toldOrder = [mostTold]int{16, 17, 18, 0, 8, 7, 9, 6, 10, 5, 11, 4, 12, 3, 13, 2, 14, 1, 15}

// span is the numbers that one symbol stands for: from the first one on, as many as the bits behind the symbol tell apart.
type span struct {
	first int
	bits  int
}

// lengthSpan is the lengths for which the symbol firstMatch + k stands.
func lengthSpan(k int) span {
	switch {
	case k == lastMatch-firstMatch:
		return span{mostMatch, 0}
	case k < 8:
		return span{leastMatch + k, 0}
	}
	bits := k/4 - 1
	return span{leastMatch + (4+k%4)<<bits, bits}
}

// distanceSpan is the distances for which the symbol k stands.
func distanceSpan(k int) span {
	if k < 4 {
		return span{1 + k, 0}
	}
	bits := k/2 - 1
	return span{1 + (2+k%2)<<bits, bits}
}

// repeatSpan is how often a symbol of the code of lengths repeats something.
func repeatSpan(symbol int) span {
	switch symbol {
	case repeatLast:
		return span{3, 2}
	case repeatNought:
		return span{3, 3}
	}
	return span{11, 7}
}

// fixedLiteralLengths are the lengths of the fixed code of literals and matches.
func fixedLiteralLengths() []int {
	lengths := make([]int, fixedLiterals)
	for symbol := range lengths {
		switch {
		case symbol < 144:
			lengths[symbol] = 8
		case symbol < 256:
			lengths[symbol] = 9
		case symbol < 280:
			lengths[symbol] = 7
		default:
			lengths[symbol] = 8
		}
	}
	return lengths
}

// fixedDistanceLengths are the lengths of the fixed code of distances.
func fixedDistanceLengths() []int {
	lengths := make([]int, fixedDistances)
	for symbol := range lengths {
		lengths[symbol] = 5
	}
	return lengths
}
