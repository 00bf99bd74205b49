package huff

import (
	"cmp"
	"slices"

	"gridiron/api"
)

// pack is a package: symbols (one as often as it was put in), and the sum of their counts.
type pack struct {
	weight  int
	symbols []int
}

// order holds two packages against each other: below 0, if the first one comes first.
type order func(a, b pack) int

// Lengths are how many bits the symbols get that stand so often, at most so many each, so that their total is the least.
func Lengths(counts []int, most int) ([]int, api.Errno) {
	if len(counts) > api.MaxSymbols {
		return nil, api.ErrLong
	}
	if !allNumbers(counts) || most < 1 || most > api.MaxBits {
		return nil, api.ErrArg
	}
	leaves := singles(counts)
	if len(leaves) > 1<<most {
		return nil, api.ErrHuffOver
	}
	lengths := make([]int, len(counts))
	if len(leaves) == 1 {
		lengths[leaves[0].symbols[0]] = 1
		return lengths, api.OK
	}
	for _, p := range cheapest(leaves, most) {
		for _, symbol := range p.symbols {
			lengths[symbol]++
		}
	}
	return lengths, api.OK
}

// singles has a package for each symbol that stands at all.
func singles(counts []int) []pack {
	var leaves []pack
	for symbol, count := range counts {
		if count > 0 {
			leaves = append(leaves, pack{count, []int{symbol}})
		}
	}
	return leaves
}

// cheapest is the packages of package-merge: a symbol's length is how often it stands in them. (None, if there are no leaves.)
func cheapest(leaves []pack, most int) []pack {
	if len(leaves) == 0 {
		return nil
	}
	lightFirst := func(a, b pack) int { return cmp.Compare(a.weight, b.weight) }
	slices.SortStableFunc(leaves, lightFirst)
	packs := leaves
	for range most - 1 {
		packs = merged(leaves, pairs(packs), lightFirst)
	}
	// so many halves, quarters and so on have just the room of a code
	return packs[:2*len(leaves)-2]
}

// pairs puts each two neighbours into one package; a last one without a neighbour falls away.
func pairs(packs []pack) []pack {
	var out []pack
	for i := 1; i < len(packs); i += 2 {
		a, b := packs[i-1], packs[i]
		out = append(out, pack{a.weight + b.weight, slices.Concat(a.symbols, b.symbols)})
	}
	return out
}

// merged is two lists that are in order as one that is; of two that are alike, that of a comes first.
func merged(a, b []pack, before order) []pack {
	out := make([]pack, 0, len(a)+len(b))
	for len(a) > 0 && len(b) > 0 {
		if before(b[0], a[0]) < 0 {
			out, b = append(out, b[0]), b[1:]
		} else {
			out, a = append(out, a[0]), a[1:]
		}
	}
	out = append(out, a...)
	return append(out, b...)
}
