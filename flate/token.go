package flate

import (
	"iter"
	"math/bits"
)

const (
	mostTries    = 128     // places that are looked at for a match
	longEnough   = 64      // a match of such a length is taken without a look at the next place
	nearForLeast = 1 << 12 // from further back the shortest match may take more bits than its bytes do
)

// token is a literal (its value is the byte), or a match (its value is the length).
type token struct {
	value    int
	distance int // 0 of a literal
}

func (t token) isMatch() bool {
	return t.distance > 0
}

// size is how many bytes it says.
func (t token) size() int {
	if t.isMatch() {
		return t.value
	}
	return 1
}

// lengthSymbol is the k for which lengthSpan(k) has this length.
func lengthSymbol(length int) int {
	over := length - leastMatch
	if length == mostMatch {
		return lastMatch - firstMatch
	}
	if over < 8 {
		return over
	}
	more := bits.Len(uint(over)) - 3
	return 4*more + over>>more
}

// distanceSymbol is the k for which distanceSpan(k) has this distance.
func distanceSymbol(distance int) int {
	over := distance - 1
	if over < 4 {
		return over
	}
	more := bits.Len(uint(over)) - 2
	return 2*more + over>>more
}

// tokens goes through tokens that say b.
func tokens(b []byte) iter.Seq[token] {
	return func(yield func(token) bool) {
		f := newFinder(b)
		at, found := 0, token{}
		for at < len(b) {
			f.add(at)
			next := token{}
			if found.value < longEnough {
				next = f.longest(at + 1)
			}
			// a longer match from the next place on is worth a literal here
			if !found.isMatch() || next.value > found.value {
				if !yield(token{value: int(b[at])}) {
					return
				}
				at, found = at+1, next
				continue
			}
			if !yield(found) {
				return
			}
			end := at + found.value
			for at++; at < end; at++ {
				f.add(at)
			}
			found = f.longest(at)
		}
	}
}

// finder finds what stands in b already.
type finder struct {
	b    []byte
	last []int // by trace: one more than the last place that has it, 0 if there is none
	back []int // by place, as far back as a match reaches: one more than the place ahead of it with the same trace, 0 if there is none
}

// newFinder knows no place yet.
func newFinder(b []byte) *finder {
	// for few bytes short tables do
	room := 1 << min(bits.Len(uint(len(b))), bits.Len(window-1))
	return &finder{b: b, last: make([]int, room), back: make([]int, room)}
}

// trace is a number by which places are found that begin with the same bytes.
func (f *finder) trace(at int) int {
	v := uint32(f.b[at]) | uint32(f.b[at+1])<<8 | uint32(f.b[at+2])<<16
	// spreads the bits of all three bytes over the highest ones; a number wraps round
	return int(v*2654435761>>16) & (len(f.last) - 1)
}

// whole tells whether a match may begin at a place.
func (f *finder) whole(at int) bool {
	return at+leastMatch <= len(f.b)
}

// add makes a place known; places come one by one from 0 on.
func (f *finder) add(at int) {
	if !f.whole(at) {
		return
	}
	trace := f.trace(at)
	f.back[at&(len(f.back)-1)] = f.last[trace]
	f.last[trace] = at + 1
}

// longest is the longest match at a place, all places ahead of which are known; no match, if there is none that is worth it.
func (f *finder) longest(at int) token {
	best := token{}
	if !f.whole(at) {
		return best
	}
	most := min(mostMatch, len(f.b)-at)
	place := f.last[f.trace(at)] - 1
	for range mostTries {
		if place < 0 || at-place > window || best.value == most {
			break
		}
		n := alike(f.b[place:], f.b[at:at+most])
		if n > best.value && worth(n, at-place) {
			best = token{n, at - place}
		}
		place = f.back[place&(len(f.back)-1)] - 1
	}
	return best
}

// worth tells whether a match is shorter than its bytes as literals.
func worth(length, distance int) bool {
	return length > leastMatch || length == leastMatch && distance <= nearForLeast
}

// alike is how many bytes at the beginning of a and b are the same; b is the shorter one.
func alike(a, b []byte) int {
	n := 0
	for n < len(b) && a[n] == b[n] {
		n++
	}
	return n
}
