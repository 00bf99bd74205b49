package bitio_test

import (
	"bytes"
	"math"
	"reflect"
	"testing"

	"gridiron/api"
	"gridiron/bitio"
)

// wantOut fails, if w has not so many bits, or others.
func wantOut(t *testing.T, w *bitio.Writer, bits int, out ...byte) {
	t.Helper()
	if w.Len() != bits || !bytes.Equal(w.Out(), out) {
		t.Fatalf("has %d bits, %v, want %d, %v", w.Len(), w.Out(), bits, out)
	}
}

func wantPut(t *testing.T, w *bitio.Writer, v uint32, n int, e api.Errno) {
	t.Helper()
	if got := w.Bits(v, n); got != e {
		t.Fatalf("Bits(%d, %d): %v, want %v", v, n, got, e)
	}
}

// modelOut is a row of bits as bytes, filled up with bits of 0.
func modelOut(row []uint32) []byte {
	var out []byte
	for i, bit := range row {
		if i%8 == 0 {
			out = append(out, 0)
		}
		out[len(out)-1] += byte(bit << (i % 8))
	}
	return out
}

// modelPut is a row of bits, with those of v behind it.
func modelPut(row []uint32, v uint32, n int) []uint32 {
	for range n {
		row = append(row, v%2)
		v /= 2
	}
	return row
}

// modelAlign is a row of bits, with noughts up to a multiple of 8.
func modelAlign(row []uint32) []uint32 {
	for len(row)%8 != 0 {
		row = append(row, 0)
	}
	return row
}

// P1.2, the chapter's example.
func TestWriterExample(t *testing.T) {
	w := bitio.NewWriter()
	wantPut(t, w, 1, 1, api.OK)
	wantPut(t, w, 2, 2, api.OK)
	wantOut(t, w, 3, 5)
	wantPut(t, w, 2, 1, api.ErrBits)
	wantOut(t, w, 3, 5)
}

// P1.2: a new writer has nothing, and stays so when nothing is put.
func TestWriterOfNothing(t *testing.T) {
	w := bitio.NewWriter()
	wantOut(t, w, 0)
	wantPut(t, w, 0, 0, api.OK)
	w.Align()
	for _, b := range [][]byte{nil, {}} {
		if e := w.Bytes(b); e != api.OK {
			t.Error("Bytes of nothing:", e)
		}
	}
	wantOut(t, w, 0)
}

// P1.2: every count of bits, at every place within a byte.
func TestWriterBitsEverywhere(t *testing.T) {
	d := draws(2)
	for at := range 17 {
		for n := range 33 {
			w := bitio.NewWriter()
			v := uint32(uint64(d.below(1<<30)*7) % (1 << n))
			if n > 0 {
				v |= 1 << (n - 1)
			}
			ones := uint32(1<<at - 1)
			wantPut(t, w, ones, at, api.OK)
			wantPut(t, w, v, n, api.OK)
			row := modelPut(modelPut(nil, ones, at), v, n)
			wantOut(t, w, at+n, modelOut(row)...)
		}
	}
}

// P1.2: counts of bits that may not be, and values that have more bits.
func TestWriterBitsRefused(t *testing.T) {
	w := bitio.NewWriter()
	wantPut(t, w, 1, 1, api.OK)
	for _, n := range []int{-1, 33, 64, math.MinInt, math.MaxInt} {
		for _, v := range []uint32{0, 1, math.MaxUint32} {
			wantPut(t, w, v, n, api.ErrBits)
		}
	}
	for n := range 32 {
		for k := n; k < 32; k++ {
			wantPut(t, w, 1<<k, n, api.ErrBits)
		}
		wantPut(t, w, math.MaxUint32, n, api.ErrBits)
	}
	wantOut(t, w, 1, 1)
	wantPut(t, w, math.MaxUint32, 32, api.OK)
	wantOut(t, w, 33, 255, 255, 255, 255, 1)
}

// P1.2: a value's highest bit that may be is put.
func TestWriterGreatestValues(t *testing.T) {
	for n := 1; n <= 32; n++ {
		w := bitio.NewWriter()
		v := uint32(math.MaxUint32) >> (32 - n)
		wantPut(t, w, v, n, api.OK)
		wantOut(t, w, n, modelOut(modelPut(nil, v, n))...)
	}
}

// P1.2: Align puts noughts up to a multiple of 8, none where there is one.
func TestWriterAlign(t *testing.T) {
	for n := range 33 {
		w := bitio.NewWriter()
		v := uint32(uint64(1)<<n - 1)
		wantPut(t, w, v, n, api.OK)
		row := modelAlign(modelPut(nil, v, n))
		w.Align()
		wantOut(t, w, len(row), modelOut(row)...)
		w.Align()
		wantOut(t, w, len(row), modelOut(row)...)
		wantPut(t, w, 1, 1, api.OK)
		wantOut(t, w, len(row)+1, modelOut(append(row, 1))...)
	}
}

// P1.2: Bytes goes on at a whole byte, also with no bytes.
func TestWriterBytes(t *testing.T) {
	w := bitio.NewWriter()
	w.Bytes([]byte{7, 8})
	wantOut(t, w, 16, 7, 8)
	wantPut(t, w, 5, 3, api.OK)
	w.Bytes([]byte{255})
	wantOut(t, w, 32, 7, 8, 5, 255)
	wantPut(t, w, 1, 1, api.OK)
	if e := w.Bytes(nil); e != api.OK {
		t.Error("Bytes(nil):", e)
	}
	wantOut(t, w, 40, 7, 8, 5, 255, 1)
	wantPut(t, w, 1, 1, api.OK)
	wantOut(t, w, 41, 7, 8, 5, 255, 1, 1)
}

// P1.2: Out asks, and changes nothing: the byte that is begun goes on being filled.
func TestWriterOutWithin(t *testing.T) {
	w := bitio.NewWriter()
	wantPut(t, w, 1, 3, api.OK)
	wantOut(t, w, 3, 1)
	wantPut(t, w, 1, 3, api.OK)
	wantOut(t, w, 6, 9)
	wantPut(t, w, 7, 3, api.OK)
	wantOut(t, w, 9, 201, 1)
}

// P1.2: calls of all kinds one behind the other, against a row of bits.
func TestWriterManyCalls(t *testing.T) {
	for seed := range 300 {
		d := draws(seed)
		w := bitio.NewWriter()
		var row []uint32
		for range 40 {
			switch d.below(5) {
			case 0:
				w.Align()
				row = modelAlign(row)
			case 1:
				row = checkPutBytes(t, w, row, d.bytes(d.below(4)))
			default:
				row = checkPutBits(t, w, row, uint32(d.below(1<<30))>>d.below(30), d.below(36)-2)
			}
			wantOut(t, w, len(row), modelOut(row)...)
		}
	}
}

// checkPutBits holds Bits against the model; the row of bits then.
func checkPutBits(t *testing.T, w *bitio.Writer, row []uint32, v uint32, n int) []uint32 {
	t.Helper()
	if n < 0 || n > 32 || uint64(v) >= 1<<n {
		wantPut(t, w, v, n, api.ErrBits)
		return row
	}
	wantPut(t, w, v, n, api.OK)
	return modelPut(row, v, n)
}

// checkPutBytes holds Bytes against the model; the row of bits then.
func checkPutBytes(t *testing.T, w *bitio.Writer, row []uint32, b []byte) []uint32 {
	t.Helper()
	if e := w.Bytes(b); e != api.OK {
		t.Fatal("Bytes:", e)
	}
	row = modelAlign(row)
	for _, x := range b {
		row = modelPut(row, uint32(x), 8)
	}
	return row
}

// R3: the bytes that are handed in stay as they are, their spare room too, and are not kept.
func TestWriterKeepsNoArgument(t *testing.T) {
	room := []byte{1, 2, 9, 9, 9, 9, 9, 9}
	w := bitio.NewWriter()
	w.Bytes(room[:2])
	wantPut(t, w, 255, 8, api.OK)
	w.Bytes([]byte{3})
	if !bytes.Equal(room, []byte{1, 2, 9, 9, 9, 9, 9, 9}) {
		t.Error("what was handed in is changed:", room)
	}
	for i := range room {
		room[i] = 77
	}
	wantOut(t, w, 32, 1, 2, 255, 3)
}

// R3: bytes that were answered are nobody else's, their spare room too.
func TestWriterAnswersNewMemory(t *testing.T) {
	w := bitio.NewWriter()
	w.Bytes([]byte{1, 2, 3})
	first, second := w.Out(), w.Out()
	first = first[:cap(first)]
	for i := range first {
		first[i] = 77
	}
	if !bytes.Equal(second, []byte{1, 2, 3}) {
		t.Error("two answers share memory:", second)
	}
	wantOut(t, w, 24, 1, 2, 3)
	wantPut(t, w, 4, 8, api.OK)
	wantOut(t, w, 32, 1, 2, 3, 4)
	for i, x := range first {
		if x != 77 {
			t.Error("an answer is changed behind its back at", i)
		}
	}
}

// R4: two writers know nothing of each other.
func TestWritersApart(t *testing.T) {
	v, w := bitio.NewWriter(), bitio.NewWriter()
	wantPut(t, v, 1, 1, api.OK)
	wantOut(t, w, 0)
	w.Bytes(v.Out())
	wantPut(t, v, 1, 1, api.OK)
	wantOut(t, v, 2, 3)
	wantOut(t, w, 8, 1)
}

// R5: writers that no call made.
func TestWriterNotMade(t *testing.T) {
	for _, w := range []*bitio.Writer{nil, {}} {
		for _, n := range []int{0, 1, 32, 33, -1, math.MinInt, math.MaxInt} {
			wantPut(t, w, 0, n, api.ErrMade)
			wantPut(t, w, math.MaxUint32, n, api.ErrMade)
		}
		for _, b := range [][]byte{nil, {}, {1, 2}} {
			if e := w.Bytes(b); e != api.ErrMade {
				t.Error("Bytes:", e)
			}
		}
		w.Align()
		wantOut(t, w, 0)
		if w != nil && !reflect.DeepEqual(*w, bitio.Writer{}) {
			t.Error("a call changed it")
		}
	}
}
