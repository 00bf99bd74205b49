package huff_test

import (
	"bytes"
	"math"
	"slices"
	"strconv"
	"strings"
	"testing"

	"gridiron/api"
	"gridiron/bitio"
	"gridiron/huff"
)

// bitText is a code of so many bits as a text of 0 and 1, the highest bit first.
func bitText(code uint32, length int) string {
	s := strconv.FormatUint(uint64(code), 2)
	return strings.Repeat("0", length-len(s)) + s
}

// texts is the codes of lengths as texts, "" of a symbol without one.
func texts(t *testing.T, lengths []int) []string {
	t.Helper()
	codes, errno := huff.Codes(lengths)
	if errno != api.OK || len(codes) != len(lengths) {
		t.Fatalf("Codes(%v): %v, %v", lengths, codes, errno)
	}
	out := make([]string, len(codes))
	for symbol, length := range lengths {
		if codes[symbol]>>length != 0 {
			t.Fatalf("Codes(%v): %d has more than %d bits", lengths, codes[symbol], length)
		}
		if length > 0 {
			out[symbol] = bitText(codes[symbol], length)
		}
	}
	return out
}

// written is the bits that w has, as a text.
func written(w *bitio.Writer) string {
	var b strings.Builder
	r := bitio.NewReader(w.Out())
	for range w.Len() {
		bit, _ := r.Bits(1)
		b.WriteByte("01"[bit])
	}
	return b.String()
}

// someCodes is lengths that are a code's: the edges, and many others.
func someCodes() [][]int {
	l := [][]int{{1}, {0, 1}, {1, 1}, {2, 1, 3, 3}, chain(15, 15), times(512, 9), times(2, 1), times(8, 3), append(times(510, 0), 1, 1)}
	for seed := range 60 {
		d := draws(seed)
		l = append(l, d.code(2+d.below(20), d.below(5)), d.code(2+d.below(400), d.below(100)))
	}
	return l
}

// P2.4: the chapter's examples, RFC 1951's, and its fixed codes.
func TestCodesExamples(t *testing.T) {
	fixed := slices.Concat(times(144, 8), times(112, 9), times(24, 7), times(8, 8))
	var want []uint32
	for _, run := range [][2]uint32{{0x30, 144}, {0x190, 112}, {0, 24}, {0xC0, 8}} {
		for k := range run[1] {
			want = append(want, run[0]+k)
		}
	}
	for _, x := range []struct {
		lengths []int
		want    []uint32
	}{
		{[]int{2, 1, 3, 3}, []uint32{2, 0, 6, 7}}, {[]int{1}, []uint32{0}}, {nil, nil}, {[]int{0, 0}, []uint32{0, 0}},
		{[]int{3, 3, 3, 3, 3, 2, 4, 4}, []uint32{2, 3, 4, 5, 6, 0, 14, 15}}, {[]int{0, 1, 0, 1}, []uint32{0, 0, 0, 1}},
		{fixed, want},
	} {
		got, errno := huff.Codes(x.lengths)
		if !slices.Equal(got, x.want) || errno != api.OK {
			t.Errorf("Codes(%v): %v, %v, want %v", x.lengths, got, errno, x.want)
		}
	}
}

// P2.4: codes are dealt out by length, and of one length by symbol.
func TestCodesDealtOut(t *testing.T) {
	for _, lengths := range someCodes() {
		codes, errno := huff.Codes(lengths)
		if errno != api.OK || len(codes) != len(lengths) {
			t.Fatalf("Codes(%v): %v, %v", lengths, codes, errno)
		}
		next := uint32(0)
		for length := 1; length <= 15; length++ {
			next *= 2
			for symbol := range lengths {
				if lengths[symbol] == 0 && codes[symbol] != 0 {
					t.Fatalf("Codes(%v): symbol %d has none, but %d", lengths, symbol, codes[symbol])
				}
				if lengths[symbol] == length {
					if codes[symbol] != next {
						t.Fatalf("Codes(%v): symbol %d has %d, want %d", lengths, symbol, codes[symbol], next)
					}
					next++
				}
			}
		}
	}
}

// P2.4, P2.5: Codes and NewDecoder answer the error of Check.
func TestCodesRefused(t *testing.T) {
	for _, x := range []struct {
		lengths []int
		want    api.Errno
	}{
		{times(513, 0), api.ErrLong}, {append(times(512, 1), -1), api.ErrLong}, {[]int{-1}, api.ErrArg}, {[]int{16}, api.ErrArg},
		{[]int{1, 1, 1, 16}, api.ErrArg}, {[]int{math.MinInt}, api.ErrArg}, {[]int{math.MaxInt}, api.ErrArg},
		{[]int{1, 1, 1}, api.ErrHuffOver}, {chain(15, 15, 15), api.ErrHuffOver}, {[]int{2}, api.ErrHuffLess}, {[]int{1, 2}, api.ErrHuffLess},
	} {
		if got, errno := huff.Codes(x.lengths); got != nil || errno != x.want {
			t.Errorf("Codes(%v): %v, %v, want %v", x.lengths, got, errno, x.want)
		}
		if got, errno := huff.NewDecoder(x.lengths); got != nil || errno != x.want {
			t.Errorf("NewDecoder(%v): %v, %v, want %v", x.lengths, got, errno, x.want)
		}
	}
}

// P2.8: no code begins another one.
func TestNoCodeBeginsAnother(t *testing.T) {
	for _, lengths := range someCodes() {
		l := slices.DeleteFunc(texts(t, lengths), func(s string) bool { return s == "" })
		slices.Sort(l)
		for i := 1; i < len(l); i++ {
			if strings.HasPrefix(l[i], l[i-1]) {
				t.Fatalf("%v: %s begins %s", lengths, l[i-1], l[i])
			}
		}
	}
}

// P2.8: if the room is full, all bits that are long enough begin with just one code.
func TestBitsBeginWithOneCode(t *testing.T) {
	for seed := range 10 {
		d := draws(seed)
		lengths := d.code(2+seed*3, 3)
		if seed == 0 {
			lengths = chain(15, 15)
		}
		codes := texts(t, lengths)
		for v := range uint32(1 << 15) {
			bits, begins := bitText(v, 15), 0
			for _, code := range codes {
				if code != "" && strings.HasPrefix(bits, code) {
					begins++
				}
			}
			if begins != 1 {
				t.Fatalf("%v: %s begins with %d codes", lengths, bits, begins)
			}
		}
	}
}

// P2.9: codes of one length rise with the symbols, a longer one cut off is above a shorter one.
func TestCanonical(t *testing.T) {
	for _, lengths := range someCodes() {
		codes := texts(t, lengths)
		for a, code := range codes {
			for b, other := range codes {
				if code == "" || other == "" {
					continue
				}
				if a < b && len(code) == len(other) && code >= other {
					t.Fatalf("%v: symbol %d has %s, symbol %d %s", lengths, a, code, b, other)
				}
				if len(code) < len(other) && other[:len(code)] <= code {
					t.Fatalf("%v: symbol %d has %s, symbol %d %s", lengths, a, code, b, other)
				}
			}
		}
	}
}

// P2.6: codes are written with their highest bit first, behind what is there.
func TestPut(t *testing.T) {
	w := bitio.NewWriter()
	lengths, codes := []int{2, 1, 3, 3, 15, 15}, []uint32{2, 0, 6, 1, 1<<15 - 1, 1}
	want := ""
	for symbol, bits := range []string{"10", "0", "110", "001", strings.Repeat("1", 15), strings.Repeat("0", 14) + "1"} {
		if errno := huff.Put(w, lengths, codes, symbol); errno != api.OK {
			t.Fatalf("Put of %d: %v", symbol, errno)
		}
		want += bits
		if got := written(w); got != want {
			t.Fatalf("Put of %d: %s, want %s", symbol, got, want)
		}
	}
	for _, lengths := range someCodes() {
		codes, _ := huff.Codes(lengths)
		for symbol, want := range texts(t, lengths) {
			w := bitio.NewWriter()
			errno := huff.Put(w, lengths, codes, symbol)
			if got := written(w); got != want || (errno == api.OK) != (want != "") {
				t.Fatalf("Put of %d by %v: %s, %v, want %s", symbol, lengths, got, errno, want)
			}
		}
	}
}

// P2.6: only the symbol's own length and code count, and how many there are.
func TestPutLooksAtOneSymbol(t *testing.T) {
	w := bitio.NewWriter()
	lengths, codes := append(times(600, 3), -1, 16), append(make([]uint32, 600), 9, math.MaxUint32)
	codes[599] = 7
	if errno := huff.Put(w, lengths, codes, 599); errno != api.OK || written(w) != "111" {
		t.Error("Put of 599:", errno, written(w))
	}
}

// P2.6: what may not be leaves the writer as it was.
func TestPutRefused(t *testing.T) {
	w := bitio.NewWriter()
	w.Bits(5, 3)
	for _, x := range []struct {
		lengths []int
		codes   []uint32
		symbol  int
	}{
		{nil, nil, 0}, {nil, nil, -1}, {nil, []uint32{0}, 0}, {[]int{1}, nil, 0}, {[]int{1, 1}, []uint32{0}, 0}, {[]int{1}, []uint32{0, 1}, 0},
		{[]int{1, 1}, []uint32{0, 1}, -1}, {[]int{1, 1}, []uint32{0, 1}, 2}, {[]int{1, 1}, []uint32{0, 1}, math.MinInt}, {[]int{1, 1}, []uint32{0, 1}, math.MaxInt},
		{[]int{0}, []uint32{0}, 0}, {[]int{-1}, []uint32{0}, 0}, {[]int{16}, []uint32{0}, 0}, {[]int{math.MinInt}, []uint32{0}, 0}, {[]int{math.MaxInt}, []uint32{0}, 0},
		{[]int{1}, []uint32{2}, 0}, {[]int{3}, []uint32{8}, 0}, {[]int{15}, []uint32{1 << 15}, 0}, {[]int{15}, []uint32{math.MaxUint32}, 0}, {[]int{1}, []uint32{1 << 31}, 0},
	} {
		if errno := huff.Put(w, x.lengths, x.codes, x.symbol); errno != api.ErrArg {
			t.Errorf("Put(%v, %v, %d): %v", x.lengths, x.codes, x.symbol, errno)
		}
	}
	if w.Len() != 3 || !bytes.Equal(w.Out(), []byte{5}) {
		t.Error("the writer has", w.Len(), w.Out())
	}
}
