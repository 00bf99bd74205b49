package bitio_test

import (
	"math"
	"testing"

	"gridiron/api"
	"gridiron/bitio"
)

// someNumbers has the edges of a uint32, each bit alone, and others.
func someNumbers() []uint32 {
	l := []uint32{0, math.MaxUint32, 0x55555555, 0xAAAAAAAA, 0x12345678}
	for k := range 32 {
		l = append(l, 1<<k, 1<<k-1)
	}
	d := draws(3)
	for range 50 {
		l = append(l, uint32(d.below(1<<30))*5)
	}
	return l
}

// P1.3, the chapter's example, and numbers that are turned by hand.
func TestReverseExamples(t *testing.T) {
	for _, x := range []struct {
		v    uint32
		n    int
		want uint32
	}{
		{1, 3, 4}, {6, 3, 3}, {0, 32, 0}, {1, 32, 1 << 31}, {1 << 31, 32, 1},
		{math.MaxUint32, 32, math.MaxUint32}, {0x12345678, 32, 0x1E6A2C48},
		{1, 1, 1}, {2, 1, 0}, {7, 0, 0}, {math.MaxUint32, 0, 0}, {math.MaxUint32, 5, 31},
		{0xFFFFFFF8, 3, 0}, {13, 2, 2},
	} {
		if got := bitio.Reverse(x.v, x.n); got != x.want {
			t.Errorf("Reverse(%d, %d): %d, want %d", x.v, x.n, got, x.want)
		}
	}
}

// P1.3: bit k of the answer is bit n - 1 - k of v, and it has no others.
func TestReverseBitByBit(t *testing.T) {
	for _, v := range someNumbers() {
		for n := range 33 {
			got := bitio.Reverse(v, n)
			for k := range 32 {
				want := uint32(0)
				if k < n {
					want = v >> (n - 1 - k) % 2
				}
				if got>>k%2 != want {
					t.Fatalf("Reverse(%d, %d): %d, bit %d is wrong", v, n, got, k)
				}
			}
		}
	}
}

// P1.3: counts of bits that may not be.
func TestReverseRefused(t *testing.T) {
	for _, n := range []int{-1, -32, 33, 64, math.MinInt, math.MaxInt} {
		for _, v := range []uint32{0, 1, math.MaxUint32} {
			if got := bitio.Reverse(v, n); got != 0 {
				t.Errorf("Reverse(%d, %d): %d", v, n, got)
			}
		}
	}
}

// P1.5: turned twice, a number's lowest n bits are there again.
func TestReverseTwice(t *testing.T) {
	for _, v := range someNumbers() {
		for n := range 33 {
			want := uint32(uint64(v) % (1 << n))
			if got := bitio.Reverse(bitio.Reverse(v, n), n); got != want {
				t.Fatalf("Reverse of Reverse(%d, %d): %d, want %d", v, n, got, want)
			}
		}
	}
}

// number is a value and how many bits it is written with.
type number struct {
	v uint32
	n int
}

// checkThereAndBack writes numbers one by one, and reads them one by one.
func checkThereAndBack(t *testing.T, l []number) {
	t.Helper()
	w := bitio.NewWriter()
	bits := 0
	for _, x := range l {
		wantPut(t, w, x.v, x.n, api.OK)
		bits += x.n
	}
	out := w.Out()
	if w.Len() != bits || len(out) != (bits+7)/8 {
		t.Fatalf("%d bits are %d bits in %d bytes", bits, w.Len(), len(out))
	}
	r := bitio.NewReader(out)
	for _, x := range l {
		wantPeek(t, r, x.n, x.v, api.OK)
		wantBits(t, r, x.n, x.v, api.OK)
	}
	wantStand(t, r, bits, len(out))
	wantBits(t, r, r.Left(), 0, api.OK)
}

// P1.4: each count of bits from 0 to 32, with the edges of its values.
func TestThereAndBackEdges(t *testing.T) {
	var l []number
	for n := range 33 {
		most := uint32(uint64(1)<<n - 1)
		l = append(l, number{0, n}, number{most, n}, number{most / 2, n}, number{most - most/2, n}, number{most & 1, n})
	}
	checkThereAndBack(t, l)
	checkThereAndBack(t, nil)
}

// P1.4: numbers of all kinds in any order.
func TestThereAndBackMany(t *testing.T) {
	for seed := range 300 {
		d := draws(seed)
		var l []number
		for range d.below(80) {
			n := d.below(33)
			v := uint64(d.below(1<<30)) * 5 % (1 << n)
			l = append(l, number{uint32(v), n})
		}
		checkThereAndBack(t, l)
	}
}

// P1.4: numbers, bytes and whole bytes among one another come back as they went.
func TestThereAndBackMixed(t *testing.T) {
	w := bitio.NewWriter()
	wantPut(t, w, 5, 3, api.OK)
	w.Bytes([]byte{1, 2, 3})
	wantPut(t, w, 1000, 10, api.OK)
	w.Align()
	wantPut(t, w, math.MaxUint32, 32, api.OK)
	w.Bytes(nil)
	wantPut(t, w, 1, 1, api.OK)
	r := bitio.NewReader(w.Out())
	wantBits(t, r, 3, 5, api.OK)
	wantBytes(t, r, 3, []byte{1, 2, 3}, api.OK)
	wantBits(t, r, 10, 1000, api.OK)
	r.Align()
	wantBits(t, r, 32, math.MaxUint32, api.OK)
	wantBytes(t, r, 0, nil, api.OK)
	wantBits(t, r, 1, 1, api.OK)
	if w.Len() != 32+16+32+1 {
		t.Error("Len:", w.Len())
	}
}
