package bitio_test

import (
	"bytes"
	"math"
	"reflect"
	"testing"

	"gridiron/api"
	"gridiron/bitio"
)

// modelBit is bit i of b as the chapter counts bits, and 0 behind the end.
func modelBit(b []byte, i int) uint32 {
	if i/8 >= len(b) {
		return 0
	}
	return uint32(b[i/8]) / (1 << (i % 8)) % 2
}

// modelNumber is the number of n bits of b from bit i on.
func modelNumber(b []byte, i, n int) uint32 {
	var v uint32
	for k := n - 1; k >= 0; k-- {
		v = v*2 + modelBit(b, i+k)
	}
	return v
}

// draws is a row of numbers that looks like none, the same one for the same beginning.
type draws uint64

func (d *draws) below(n int) int {
	*d = *d*6364136223846793005 + 1442695040888963407
	return int(uint64(*d) >> 33 % uint64(n))
}

func (d *draws) bytes(n int) []byte {
	b := make([]byte, n)
	for i := range b {
		b[i] = byte(d.below(256))
	}
	return b
}

// wantStand fails, if r does not stand at bit at of so many bytes.
func wantStand(t *testing.T, r *bitio.Reader, at, size int) {
	t.Helper()
	if r.Left() != 8*size-at || r.Used() != (at+7)/8 {
		t.Fatalf("stands with Left %d, Used %d, want %d, %d", r.Left(), r.Used(), 8*size-at, (at+7)/8)
	}
}

func wantBits(t *testing.T, r *bitio.Reader, n int, v uint32, e api.Errno) {
	t.Helper()
	if gv, ge := r.Bits(n); gv != v || ge != e {
		t.Fatalf("Bits(%d): %d, %v, want %d, %v", n, gv, ge, v, e)
	}
}

func wantPeek(t *testing.T, r *bitio.Reader, n int, v uint32, e api.Errno) {
	t.Helper()
	if gv, ge := r.Peek(n); gv != v || ge != e {
		t.Fatalf("Peek(%d): %d, %v, want %d, %v", n, gv, ge, v, e)
	}
}

func wantBytes(t *testing.T, r *bitio.Reader, n int, b []byte, e api.Errno) {
	t.Helper()
	if gb, ge := r.Bytes(n); !bytes.Equal(gb, b) || ge != e {
		t.Fatalf("Bytes(%d): %v, %v, want %v, %v", n, gb, ge, b, e)
	}
}

// P1.1, the chapter's example.
func TestReaderExample(t *testing.T) {
	r := bitio.NewReader([]byte{5, 1})
	wantStand(t, r, 0, 2)
	wantBits(t, r, 3, 5, api.OK)
	wantBits(t, r, 6, 32, api.OK)
	wantStand(t, r, 9, 2)
	wantPeek(t, r, 32, 0, api.OK)
	r.Align()
	wantStand(t, r, 16, 2)
	wantBits(t, r, 1, 0, api.ErrEnds)
}

// P1.1: every start and every count of bits, also those that run out.
func TestReaderBitsEverywhere(t *testing.T) {
	d := draws(1)
	b := d.bytes(9)
	b[3], b[4] = 255, 0
	for at := range 8*len(b) + 1 {
		for n := range 33 {
			r := bitio.NewReader(b)
			for range at {
				r.Bits(1)
			}
			wantStand(t, r, at, len(b))
			wantPeek(t, r, n, modelNumber(b, at, n), api.OK)
			wantStand(t, r, at, len(b))
			if at+n > 8*len(b) {
				wantBits(t, r, n, 0, api.ErrEnds)
				wantStand(t, r, at, len(b))
				continue
			}
			wantBits(t, r, n, modelNumber(b, at, n), api.OK)
			wantStand(t, r, at+n, len(b))
		}
	}
}

// P1.1: counts of bits that may not be, at the front, within and at the end; ErrBits goes ahead of ErrEnds.
func TestReaderBitsRefused(t *testing.T) {
	for _, at := range []int{0, 5, 16} {
		r := bitio.NewReader([]byte{255, 255})
		wantBits(t, r, at, 1<<at-1, api.OK)
		for _, n := range []int{-1, -8, 33, 64, math.MinInt, math.MaxInt} {
			wantBits(t, r, n, 0, api.ErrBits)
			wantPeek(t, r, n, 0, api.ErrBits)
			wantStand(t, r, at, 2)
		}
		wantBits(t, r, 32, 0, api.ErrEnds)
		wantBits(t, r, 0, 0, api.OK)
		wantStand(t, r, at, 2)
	}
}

// P1.1: Peek has noughts behind the end, and only there.
func TestReaderPeekBehindTheEnd(t *testing.T) {
	r := bitio.NewReader([]byte{255})
	wantPeek(t, r, 32, 255, api.OK)
	wantPeek(t, r, 9, 255, api.OK)
	wantPeek(t, r, 8, 255, api.OK)
	wantPeek(t, r, 7, 127, api.OK)
	wantPeek(t, r, 0, 0, api.OK)
	wantBits(t, r, 5, 31, api.OK)
	wantPeek(t, r, 32, 7, api.OK)
	wantBits(t, r, 3, 7, api.OK)
	wantPeek(t, r, 32, 0, api.OK)
	wantPeek(t, r, 1, 0, api.OK)
	wantStand(t, r, 8, 1)
}

// P1.1: 32 bits that are all 1, and a number that lies across five bytes.
func TestReaderWidestNumber(t *testing.T) {
	r := bitio.NewReader([]byte{255, 255, 255, 255, 255})
	wantPeek(t, r, 32, math.MaxUint32, api.OK)
	wantBits(t, r, 3, 7, api.OK)
	wantBits(t, r, 32, math.MaxUint32, api.OK)
	wantStand(t, r, 35, 5)
}

// P1.1: Align stays at a multiple of 8, and goes to the next one from everywhere else.
func TestReaderAlign(t *testing.T) {
	for at := range 25 {
		r := bitio.NewReader([]byte{1, 2, 3})
		wantBits(t, r, at, modelNumber([]byte{1, 2, 3}, 0, at), api.OK)
		r.Align()
		to := (at + 7) / 8 * 8
		wantStand(t, r, to, 3)
		r.Align()
		wantStand(t, r, to, 3)
		wantPeek(t, r, 8, modelNumber([]byte{1, 2, 3}, to, 8), api.OK)
	}
}

// P1.1: Bytes goes on at a whole byte, or stays where it stood, even within a byte.
func TestReaderBytesEverywhere(t *testing.T) {
	b := []byte{10, 20, 30, 40}
	for at := range 33 {
		for n := range 7 {
			r := bitio.NewReader(b)
			wantBits(t, r, at, modelNumber(b, 0, at), api.OK)
			from := (at + 7) / 8
			if from+n > len(b) {
				wantBytes(t, r, n, nil, api.ErrEnds)
				wantStand(t, r, at, len(b))
				wantPeek(t, r, 32, modelNumber(b, at, 32), api.OK)
				continue
			}
			wantBytes(t, r, n, b[from:from+n], api.OK)
			wantStand(t, r, 8*(from+n), len(b))
		}
	}
}

// P1.1: numbers of bytes that may not be, or that no memory has.
func TestReaderBytesRefused(t *testing.T) {
	r := bitio.NewReader([]byte{1, 2})
	wantBits(t, r, 1, 1, api.OK)
	for _, n := range []int{-1, math.MinInt} {
		wantBytes(t, r, n, nil, api.ErrBits)
		wantStand(t, r, 1, 2)
	}
	for _, n := range []int{2, 1 << 61, 1<<61 + 1, math.MaxInt} {
		wantBytes(t, r, n, nil, api.ErrEnds)
		wantStand(t, r, 1, 2)
	}
}

// P1.1: a reader of nothing is a reader.
func TestReaderOfNothing(t *testing.T) {
	for _, b := range [][]byte{nil, {}, make([]byte, 0, 8)} {
		r := bitio.NewReader(b)
		wantStand(t, r, 0, 0)
		wantBits(t, r, 0, 0, api.OK)
		wantBits(t, r, 1, 0, api.ErrEnds)
		wantBits(t, r, 33, 0, api.ErrBits)
		wantPeek(t, r, 32, 0, api.OK)
		r.Align()
		wantBytes(t, r, 0, nil, api.OK)
		wantBytes(t, r, 1, nil, api.ErrEnds)
		wantStand(t, r, 0, 0)
	}
}

// P1.1: calls of all kinds one behind the other, against a place that is counted by hand.
func TestReaderManyCalls(t *testing.T) {
	for seed := range 300 {
		d := draws(seed)
		b := d.bytes(d.below(40))
		r := bitio.NewReader(b)
		at := 0
		for range 60 {
			n := d.below(36) - 2
			switch d.below(5) {
			case 0:
				r.Align()
				at = (at + 7) / 8 * 8
			case 1:
				at = checkBytes(t, r, b, at, d.below(6)-1)
			default:
				at = checkBits(t, r, b, at, n)
			}
			wantStand(t, r, at, len(b))
		}
	}
}

// checkBits holds Peek and Bits against the model; where the reader stands then.
func checkBits(t *testing.T, r *bitio.Reader, b []byte, at, n int) int {
	t.Helper()
	if n < 0 || n > 32 {
		wantPeek(t, r, n, 0, api.ErrBits)
		wantBits(t, r, n, 0, api.ErrBits)
		return at
	}
	wantPeek(t, r, n, modelNumber(b, at, n), api.OK)
	if at+n > 8*len(b) {
		wantBits(t, r, n, 0, api.ErrEnds)
		return at
	}
	wantBits(t, r, n, modelNumber(b, at, n), api.OK)
	return at + n
}

// checkBytes holds Bytes against the model; where the reader stands then.
func checkBytes(t *testing.T, r *bitio.Reader, b []byte, at, n int) int {
	t.Helper()
	from := (at + 7) / 8
	if n < 0 {
		wantBytes(t, r, n, nil, api.ErrBits)
		return at
	}
	if from+n > len(b) {
		wantBytes(t, r, n, nil, api.ErrEnds)
		return at
	}
	wantBytes(t, r, n, b[from:from+n], api.OK)
	return 8 * (from + n)
}

// R3: the bytes that are handed in stay as they are, their spare room too, and are not kept.
func TestReaderKeepsNoArgument(t *testing.T) {
	room := []byte{1, 2, 3, 9, 9}
	r := bitio.NewReader(room[:3])
	wantBits(t, r, 8, 1, api.OK)
	if got, e := r.Bytes(2); e != api.OK || !bytes.Equal(got, []byte{2, 3}) {
		t.Fatal("Bytes(2)", got, e)
	}
	if !bytes.Equal(room, []byte{1, 2, 3, 9, 9}) {
		t.Error("what was handed in is changed:", room)
	}
	r = bitio.NewReader(room[:3])
	for i := range room {
		room[i] = 77
	}
	wantBits(t, r, 8, 1, api.OK)
	wantBytes(t, r, 2, []byte{2, 3}, api.OK)
}

// R3: bytes that were answered are nobody else's, their spare room too.
func TestReaderAnswersNewMemory(t *testing.T) {
	b := []byte{1, 2, 3, 4, 5, 6}
	r := bitio.NewReader(b)
	first, _ := r.Bytes(2)
	second, _ := r.Bytes(2)
	first = first[:cap(first)]
	for i := range first {
		first[i] = 77
	}
	if !bytes.Equal(second, []byte{3, 4}) {
		t.Error("two answers share memory:", second)
	}
	second = second[:cap(second)]
	for i := range second {
		second[i] = 88
	}
	wantBytes(t, r, 2, []byte{5, 6}, api.OK)
	if !bytes.Equal(b, []byte{1, 2, 3, 4, 5, 6}) {
		t.Error("an answer shares memory with what was handed in:", b)
	}
}

// R4: two readers of the same bytes know nothing of each other.
func TestReadersApart(t *testing.T) {
	b := []byte{5, 1}
	r, s := bitio.NewReader(b), bitio.NewReader(b)
	wantBits(t, r, 9, 261, api.OK)
	wantStand(t, s, 0, 2)
	wantBits(t, s, 3, 5, api.OK)
	wantStand(t, r, 9, 2)
}

// R5: readers that no call made.
func TestReaderNotMade(t *testing.T) {
	for _, r := range []*bitio.Reader{nil, {}} {
		for _, n := range []int{0, 1, 32, 33, -1, math.MinInt, math.MaxInt} {
			wantBits(t, r, n, 0, api.ErrMade)
			wantPeek(t, r, n, 0, api.ErrMade)
			wantBytes(t, r, n, nil, api.ErrMade)
		}
		r.Align()
		if r.Left() != 0 || r.Used() != 0 {
			t.Error("Left, Used:", r.Left(), r.Used())
		}
		if r != nil && !reflect.DeepEqual(*r, bitio.Reader{}) {
			t.Error("a call changed it")
		}
	}
}
