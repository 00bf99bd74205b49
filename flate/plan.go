package flate

import (
	"slices"

	"gridiron/api"
	"gridiron/bitio"
)

// plan is the codes of a dynamic block, and how it tells them.
type plan struct {
	codes     codes
	literals  int // how many lengths of literals are told
	distances int
	told      int    // how many lengths of the code of lengths are told
	steps     []step // the lengths of both codes
	lengths   code   // of the symbols of steps
}

// step is a length, or a repetition, as a symbol of the code of lengths.
type step struct {
	symbol int
	times  int
}

// plan makes the codes that are the shortest for what was counted.
func (t *tally) plan() plan {
	p := plan{codes: codes{shortCode(t.literals[:], api.MaxBits), shortCode(t.distances[:], api.MaxBits)}}
	p.literals = untilLast(p.codes.literals.lengths, leastLiterals)
	p.distances = untilLast(p.codes.distances.lengths, leastDistances)
	p.steps = stepsOf(slices.Concat(p.codes.literals.lengths[:p.literals], p.codes.distances.lengths[:p.distances]))
	counts := make([]int, mostTold)
	for _, s := range p.steps {
		counts[s.symbol]++
	}
	p.lengths = shortCode(counts, mostToldBits)
	p.told = mostTold
	for p.told > leastTold && p.lengths.lengths[toldOrder[p.told-1]] == 0 {
		p.told--
	}
	return p
}

// untilLast is how many lengths there are up to the last one that is not 0, and at least so many.
func untilLast(lengths []int, least int) int {
	n := len(lengths)
	for n > least && lengths[n-1] == 0 {
		n--
	}
	return n
}

// stepsOf tells lengths in few steps.
func stepsOf(lengths []int) []step {
	var steps []step
	for at := 0; at < len(lengths); {
		s := stepAt(lengths, at)
		steps = append(steps, s)
		at += s.times
	}
	return steps
}

// stepAt is the step that tells the most lengths from a place on.
func stepAt(lengths []int, at int) step {
	run := 1
	for at+run < len(lengths) && lengths[at+run] == lengths[at] {
		run++
	}
	again := at > 0 && lengths[at-1] == lengths[at]
	switch {
	case lengths[at] == 0 && run >= repeatSpan(repeatLong).first:
		return step{repeatLong, min(run, repeatSpan(repeatLong).last())}
	case lengths[at] == 0 && run >= repeatSpan(repeatNought).first:
		return step{repeatNought, run}
	case again && run >= repeatSpan(repeatLast).first:
		return step{repeatLast, min(run, repeatSpan(repeatLast).last())}
	}
	return step{lengths[at], 1}
}

// last is the greatest number of the span.
func (s span) last() int {
	return s.first + 1<<s.bits - 1
}

// more is the span of the times that the step's symbol may say.
func (s step) more() span {
	if s.symbol < repeatLast {
		return span{1, 0}
	}
	return repeatSpan(s.symbol)
}

// bits is how many bits the plan takes.
func (p *plan) bits() int {
	bits := 14 + 3*p.told
	for _, s := range p.steps {
		bits += p.lengths.lengths[s.symbol] + s.more().bits
	}
	return bits
}

// put puts the plan, behind the block's kind.
func (p *plan) put(w *bitio.Writer) {
	w.Bits(uint32(p.literals-leastLiterals), 5)
	w.Bits(uint32(p.distances-leastDistances), 5)
	w.Bits(uint32(p.told-leastTold), 4)
	for i := range p.told {
		w.Bits(uint32(p.lengths.lengths[toldOrder[i]]), 3)
	}
	for _, s := range p.steps {
		p.lengths.put(w, s.symbol)
		s.more().put(w, s.times)
	}
}
