package huff_test

import (
	"bytes"
	"slices"
	"strings"
	"testing"

	"gridiron/api"
	"gridiron/bitio"
	"gridiron/huff"
)

// bitReader reads a text of 0 and 1; noughts fill up the last byte.
func bitReader(bits string) *bitio.Reader {
	w := bitio.NewWriter()
	for _, c := range bits {
		w.Bits(uint32(c-'0'), 1)
	}
	return bitio.NewReader(w.Out())
}

func decoder(t *testing.T, lengths []int) *huff.Decoder {
	t.Helper()
	d, errno := huff.NewDecoder(lengths)
	if d == nil || errno != api.OK {
		t.Fatalf("NewDecoder(%v): %v, %v", lengths, d, errno)
	}
	return d
}

func wantSymbol(t *testing.T, d *huff.Decoder, r *bitio.Reader, symbol int, errno api.Errno) {
	t.Helper()
	if got, ge := d.Read(r); got != symbol || ge != errno {
		t.Fatalf("Read: %d, %v, want %d, %v", got, ge, symbol, errno)
	}
}

// P2.5: symbols by their codes, the highest bit first, and no bit more than a code's is taken.
func TestRead(t *testing.T) {
	d := decoder(t, []int{2, 1, 3, 3})
	r := bitReader("10" + "0" + "110" + "111" + "0" + "111" + "110")
	left := r.Left()
	for _, x := range []struct{ symbol, bits int }{{0, 2}, {1, 1}, {2, 3}, {3, 3}, {1, 1}, {3, 3}, {2, 3}} {
		wantSymbol(t, d, r, x.symbol, api.OK)
		left -= x.bits
		if r.Left() != left {
			t.Fatalf("%d bits are left, want %d", r.Left(), left)
		}
	}
}

// P2.5: every symbol of many codes, each one read by itself.
func TestReadEachSymbol(t *testing.T) {
	for _, lengths := range someCodes() {
		d := decoder(t, lengths)
		for symbol, code := range texts(t, lengths) {
			if code == "" {
				continue
			}
			r := bitReader(code + "01")
			before := r.Left()
			wantSymbol(t, d, r, symbol, api.OK)
			if before-r.Left() != len(code) {
				t.Fatalf("%v: %d bits were taken of %s", lengths, before-r.Left(), code)
			}
		}
	}
}

// P2.5: a reader that ends within a code, at each of its bits.
func TestReadEnds(t *testing.T) {
	d := decoder(t, chain(15, 15))
	wantSymbol(t, d, bitio.NewReader(nil), 0, api.ErrEnds)
	for short := range 15 {
		r := bitReader(strings.Repeat("0", 16-short) + strings.Repeat("1", short))
		r.Bits(16 - short)
		wantSymbol(t, d, r, 0, api.ErrEnds)
	}
	r := bitReader(strings.Repeat("1", 15) + "0")
	wantSymbol(t, d, r, 15, api.OK)
	wantSymbol(t, d, r, 0, api.OK)
	wantSymbol(t, d, r, 0, api.ErrEnds)
	wantSymbol(t, decoder(t, []int{0, 1}), bitio.NewReader(nil), 0, api.ErrEnds)
}

// P2.5: bits that no symbol has, of which the first one tells, even if it is the last bit.
func TestReadNoSymbol(t *testing.T) {
	d := decoder(t, []int{0, 0, 1, 0})
	r := bitReader("00101000")
	wantSymbol(t, d, r, 2, api.OK)
	wantSymbol(t, d, r, 2, api.OK)
	wantSymbol(t, d, r, 0, api.ErrHuffCode)
	r = bitReader("00000001")
	r.Bits(7)
	wantSymbol(t, d, r, 0, api.ErrHuffCode)
}

// P2.5: a decoder without any code takes no bit, and needs none.
func TestReadWithoutCodes(t *testing.T) {
	for _, lengths := range [][]int{nil, {}, {0}, times(512, 0)} {
		d := decoder(t, lengths)
		r := bitReader("01011010")
		wantSymbol(t, d, r, 0, api.ErrHuffCode)
		if r.Left() != 8 {
			t.Error("bits were taken:", 8-r.Left())
		}
		wantSymbol(t, d, bitio.NewReader(nil), 0, api.ErrHuffCode)
	}
}

// P2.7: symbols that are put one behind the other are read as the same ones.
func TestThereAndBack(t *testing.T) {
	for seed, lengths := range someCodes() {
		var some []int
		for symbol, length := range lengths {
			if length > 0 {
				some = append(some, symbol)
			}
		}
		draw := draws(seed)
		symbols := slices.Clone(some)
		for range 300 {
			symbols = append(symbols, some[draw.below(len(some))])
		}
		codes, _ := huff.Codes(lengths)
		w := bitio.NewWriter()
		bits := 0
		for _, symbol := range symbols {
			if errno := huff.Put(w, lengths, codes, symbol); errno != api.OK {
				t.Fatalf("Put of %d by %v: %v", symbol, lengths, errno)
			}
			bits += lengths[symbol]
		}
		d, r := decoder(t, lengths), bitio.NewReader(w.Out())
		for _, symbol := range symbols {
			wantSymbol(t, d, r, symbol, api.OK)
		}
		if w.Len() != bits || r.Left() != 8*len(w.Out())-bits {
			t.Fatalf("%v: %d bits are left of %d", lengths, r.Left(), bits)
		}
	}
}

// P2.7, P2.2: by the lengths of the symbols' own counts, which take as many bits as Total says.
func TestThereAndBackByCounts(t *testing.T) {
	for seed := range 40 {
		draw := draws(seed)
		symbols, counts := []int{}, make([]int, 1+draw.below(512))
		for range 1 + draw.below(2000) {
			symbol := draw.below(1 + draw.below(len(counts)))
			symbols, counts[symbol] = append(symbols, symbol), counts[symbol]+1
		}
		lengths, errno := huff.Lengths(counts, 9+seed%7)
		if errno != api.OK {
			t.Fatal("Lengths:", errno)
		}
		codes, _ := huff.Codes(lengths)
		w := bitio.NewWriter()
		for _, symbol := range symbols {
			huff.Put(w, lengths, codes, symbol)
		}
		if total, errno := huff.Total(counts, lengths); total != w.Len() || errno != api.OK {
			t.Fatalf("Total: %d, %v, want %d", total, errno, w.Len())
		}
		d, r := decoder(t, lengths), bitio.NewReader(w.Out())
		for _, symbol := range symbols {
			wantSymbol(t, d, r, symbol, api.OK)
		}
	}
}

// R5: decoders, readers and writers that no call made, ahead of all else.
func TestNotMade(t *testing.T) {
	r := bitReader("01010101")
	for _, d := range []*huff.Decoder{nil, {}, new(huff.Decoder)} {
		for _, r := range []*bitio.Reader{r, nil, {}, bitio.NewReader(nil)} {
			wantSymbol(t, d, r, 0, api.ErrMade)
		}
	}
	if r.Left() != 8 {
		t.Error("bits were taken:", 8-r.Left())
	}
	for _, lengths := range [][]int{nil, {1}, {1, 1}} {
		for _, r := range []*bitio.Reader{nil, {}} {
			wantSymbol(t, decoder(t, lengths), r, 0, api.ErrMade)
		}
	}
	for _, w := range []*bitio.Writer{nil, {}} {
		for _, symbol := range []int{0, 1, 2, -1} {
			for _, lengths := range [][]int{{1, 1}, {1}, {0, 16}, nil} {
				if errno := huff.Put(w, lengths, []uint32{0, 1}, symbol); errno != api.ErrMade {
					t.Errorf("Put(%v, %d): %v", lengths, symbol, errno)
				}
			}
		}
		if w.Len() != 0 || len(w.Out()) != 0 {
			t.Error("a writer that no call made has", w.Len(), w.Out())
		}
	}
}

// spare is l with room behind its end, in which something stands.
func spare[T any](l []T, behind T) []T {
	return append(slices.Clone(l), behind, behind)[:len(l)]
}

// R3: what is handed in is as it was, and so is the room behind its end.
func TestHandedInStays(t *testing.T) {
	counts, lengths := spare([]int{3, 0, 1, 1, 5}, 77), spare([]int{2, 1, 3, 3}, 77)
	codes := spare([]uint32{2, 0, 6, 7}, 77)
	huff.Lengths(counts, 15)
	huff.Lengths(counts, 2)
	huff.Total(lengths, lengths)
	huff.Check(lengths)
	huff.Codes(lengths)
	d := decoder(t, lengths)
	w := bitio.NewWriter()
	huff.Put(w, lengths, codes, 3)
	d.Read(bitio.NewReader(w.Out()))
	if !slices.Equal(counts[:7], []int{3, 0, 1, 1, 5, 77, 77}) || !slices.Equal(lengths[:6], []int{2, 1, 3, 3, 77, 77}) || !slices.Equal(codes[:6], []uint32{2, 0, 6, 7, 77, 77}) {
		t.Error("changed:", counts[:7], lengths[:6], codes[:6])
	}
}

// R3: answers are new memory, and a decoder keeps nothing of what was handed in.
func TestAnswersAreNew(t *testing.T) {
	counts, lengths := []int{1, 1}, []int{1, 1}
	got, _ := huff.Lengths(counts, 15)
	codes, _ := huff.Codes(lengths)
	d := decoder(t, lengths)
	for _, l := range [][]int{counts, lengths} {
		l[0], l[1] = 15, 0
	}
	if !slices.Equal(got, []int{1, 1}) || !slices.Equal(codes, []uint32{0, 1}) {
		t.Error("answers changed:", got, codes)
	}
	r := bitReader("10")
	wantSymbol(t, d, r, 1, api.OK)
	wantSymbol(t, d, r, 0, api.OK)
	got, codes = append(got[:0], 9, 9, 9), append(codes[:0], 9, 9, 9)
	if !slices.Equal(counts, []int{15, 0}) || !slices.Equal(lengths, []int{15, 0}) {
		t.Error("arguments changed:", counts, lengths)
	}
	if again, _ := huff.Lengths([]int{1, 1}, 15); !slices.Equal(again, []int{1, 1}) {
		t.Error("Lengths again:", again)
	}
	if again, _ := huff.Codes([]int{1, 1}); !slices.Equal(again, []uint32{0, 1}) {
		t.Error("Codes again:", again)
	}
}

// R4: decoders know nothing of each other, nor of readers that were read before; the same arguments have the same answers.
func TestDecodersApart(t *testing.T) {
	a, b := decoder(t, []int{2, 1, 3, 3}), decoder(t, []int{1, 2, 3, 3})
	r, s := bitReader("10110111"), bitReader("10110111")
	for _, x := range []struct{ a, b int }{{0, 1}, {2, 2}, {3, 3}} {
		wantSymbol(t, a, r, x.a, api.OK)
		wantSymbol(t, b, s, x.b, api.OK)
	}
	wantSymbol(t, a, bitio.NewReader(nil), 0, api.ErrEnds)
	wantSymbol(t, a, bitReader("10"), 0, api.OK)
	counts := []int{5, 5, 5, 5, 5, 5, 5, 1, 1, 1}
	first, _ := huff.Lengths(counts, 4)
	for range 20 {
		if again, _ := huff.Lengths(counts, 4); !slices.Equal(again, first) {
			t.Fatal("Lengths:", again, first)
		}
	}
	w := bitio.NewWriter()
	huff.Put(w, []int{1, 1}, []uint32{0, 1}, 1)
	v := bitio.NewWriter()
	huff.Put(v, []int{1, 1}, []uint32{0, 1}, 0)
	if !bytes.Equal(w.Out(), []byte{1}) || !bytes.Equal(v.Out(), []byte{0}) {
		t.Error("writers:", w.Out(), v.Out())
	}
}
