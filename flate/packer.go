package flate

import (
	"gridiron/api"
	"gridiron/bitio"
)

// mostTokens is how many tokens a block has at most, so that its codes suit what stands near one another.
const mostTokens = 1 << 14

// packer gathers tokens and puts them in blocks.
type packer struct {
	w      *bitio.Writer
	fixed  codes
	rest   []byte // what no block says yet
	tokens []token
	size   int // how many bytes the tokens say
}

// packed is b in blocks, each of the kind that is the shortest for it.
func packed(b []byte) []byte {
	p := packer{w: bitio.NewWriter(), fixed: fixedCodes(), rest: b}
	for t := range tokens(b) {
		if len(p.tokens) == mostTokens {
			p.putBlock(false)
		}
		p.tokens = append(p.tokens, t)
		p.size += t.size()
	}
	p.putBlock(true)
	return p.w.Out()
}

// putBlock puts the tokens that were gathered.
func (p *packer) putBlock(final bool) {
	counted := tallyOf(p.tokens)
	own := counted.plan()
	stored, fixed, dynamic := p.storedBits(), counted.bits(p.fixed), own.bits()+counted.bits(own.codes)
	switch min(stored, fixed, dynamic) {
	case stored:
		putStored(p.w, p.rest[:p.size], final)
	case fixed:
		putHead(p.w, api.BFixed, final)
		p.putTokens(p.fixed)
	default:
		putHead(p.w, api.BDynamic, final)
		own.put(p.w)
		p.putTokens(own.codes)
	}
	p.rest = p.rest[p.size:]
	p.tokens, p.size = p.tokens[:0], 0
}

// putTokens puts the tokens, and the block's end.
func (p *packer) putTokens(c codes) {
	for _, t := range p.tokens {
		c.putToken(p.w, t)
	}
	c.literals.put(p.w, endOfBlock)
}

// storedBits is how many bits stored blocks take behind the first one's kind.
func (p *packer) storedBits() int {
	begun := (p.w.Len() + 3) % 8
	return (8-begun)%8 + 8*storedSize(p.size) - 8
}

// tally is how often symbols stand in a block, and how many bits come behind them.
type tally struct {
	literals  [fixedLiterals]int
	distances [fixedDistances]int
	more      int
}

// tallyOf counts the symbols of tokens, and the block's end.
func tallyOf(tokens []token) *tally {
	t := &tally{}
	for _, k := range tokens {
		if !k.isMatch() {
			t.literals[k.value]++
			continue
		}
		length, distance := lengthSymbol(k.value), distanceSymbol(k.distance)
		t.literals[firstMatch+length]++
		t.distances[distance]++
		t.more += lengthSpan(length).bits + distanceSpan(distance).bits
	}
	t.literals[endOfBlock]++
	return t
}

// bits is how many bits the symbols take by these codes, with what comes behind them.
func (t *tally) bits(c codes) int {
	return c.literals.total(t.literals[:]) + c.distances.total(t.distances[:]) + t.more
}
