package flate_test

import (
	"bytes"
	stdflate "compress/flate"
	"io"
	"math"
	"slices"
	"strings"
	"testing"

	"gridiron/api"
	"gridiron/flate"
)

// samples are bytes of many kinds: few and many, alike and unlike, with matches near and as far back as they may be.
func samples() [][]byte {
	draw := draws(21)
	all := make([]byte, 256)
	for i := range all {
		all[i] = byte(i)
	}
	far := draw.bytes(32768, 256)
	out := [][]byte{
		nil, {}, {0}, {255}, []byte("aa"), []byte("aaa"), []byte("aaaa"), []byte("abcabcabcabcabc"), all,
		bytes.Repeat(all, 20), bytes.Repeat([]byte("xyz "), 9000), []byte(strings.Repeat("<cell value=\"12\"/>", 700)),
		bytes.Repeat([]byte{200}, 70000), draw.bytes(65535, 256), draw.bytes(65536, 256), draw.bytes(200000, 256),
		draw.bytes(60000, 2), draw.bytes(60000, 100),
		slices.Concat(far, far[:300]), slices.Concat(far, []byte{1}, far[:300]), slices.Concat(draw.bytes(40000, 256), bytes.Repeat(all, 90), draw.bytes(40000, 256)),
	}
	for n := 1; n < 40; n++ {
		out = append(out, draw.bytes(n, 2), draw.bytes(n*7, 4), draw.bytes(n*30, 1+n), slices.Repeat([]byte{144 + byte(n)}, n))
	}
	return append(out, deep())
}

// deep is bytes whose symbols stand so often that their shortest codes would have more than 15 bits.
func deep() []byte {
	var b []byte
	draw := draws(22)
	a, c := 1, 1
	for symbol := range 20 {
		b = append(b, bytes.Repeat([]byte{byte(symbol)}, a)...)
		a, c = c, a+c
	}
	for i := range b {
		k := i + draw.below(len(b)-i)
		b[i], b[k] = b[k], b[i]
	}
	return b
}

// P3.2: the chapter's examples.
func TestDeflateExamples(t *testing.T) {
	if got := flate.Stored([]byte("a")); !bytes.Equal(got, []byte{1, 1, 0, 254, 255, 97}) {
		t.Error("Stored:", got)
	}
	if got := flate.Stored(nil); !bytes.Equal(got, []byte{1, 0, 0, 255, 255}) {
		t.Error("Stored of nothing:", got)
	}
	if got := flate.Fixed(nil); !bytes.Equal(got, []byte{3, 0}) {
		t.Error("Fixed of nothing:", got)
	}
}

// P3.2: stored blocks of 65,535 bytes each, but for the last one, which is empty only if there are no bytes.
func TestStored(t *testing.T) {
	draw := draws(23)
	for _, n := range []int{0, 1, 2, 100, 65534, 65535, 65536, 131069, 131070, 131071, 200000} {
		b := draw.bytes(n, 256)
		s, rest, blocks := new(stream), b, []api.Block{}
		for len(rest) > 65535 {
			s.stored(0, rest[:65535])
			rest = rest[65535:]
			blocks = append(blocks, api.Block{Kind: api.BStored, Bytes: 65535})
		}
		s.stored(1, rest)
		blocks = append(blocks, api.Block{Kind: api.BStored, Final: true, Bytes: len(rest)})
		if got := flate.Stored(b); !bytes.Equal(got, s.bytes()) {
			t.Errorf("Stored of %d bytes: %s", n, brief(got))
		}
		if got, errno := flate.Blocks(flate.Stored(b), n); !slices.Equal(got, blocks) || errno != api.OK {
			t.Errorf("Blocks of Stored of %d bytes: %v, %v", n, got, errno)
		}
	}
}

// P3.2: one final block of kind 1, all bytes as literals.
func TestFixed(t *testing.T) {
	for _, b := range samples() {
		s := new(stream).head(1, api.BFixed)
		for _, c := range b {
			s.symbol(int(c))
		}
		if got := flate.Fixed(b); !bytes.Equal(got, s.symbol(256).bytes()) {
			t.Errorf("Fixed of %s: %s", brief(b), brief(got))
		}
		want := []api.Block{{Kind: api.BFixed, Final: true, Bytes: len(b)}}
		if got, errno := flate.Blocks(flate.Fixed(b), len(b)); !slices.Equal(got, want) || errno != api.OK {
			t.Errorf("Blocks of Fixed of %s: %v, %v", brief(b), got, errno)
		}
	}
}

// checkDeflate fails, if Deflate of b does not say b, or is longer than Stored or Fixed.
func checkDeflate(t *testing.T, b []byte) []byte {
	t.Helper()
	d := flate.Deflate(b)
	if stored, fixed := len(flate.Stored(b)), len(flate.Fixed(b)); len(d) > stored || len(d) > fixed {
		t.Fatalf("Deflate of %s has %d bytes, Stored %d, Fixed %d", brief(b), len(d), stored, fixed)
	}
	if got, n, errno := flate.Inflate(d, len(b)); !bytes.Equal(got, b) || n != len(d) || errno != api.OK {
		t.Fatalf("Inflate of Deflate of %s: %s, %d of %d, %v", brief(b), brief(got), n, len(d), errno)
	}
	return d
}

// P3.2, P3.3: Deflate says b, to another inflater and to the model, too, and is never longer than Stored and Fixed.
func TestDeflate(t *testing.T) {
	kinds := map[int]int{}
	for _, b := range samples() {
		d := checkDeflate(t, b)
		other := stdflate.NewReader(bytes.NewReader(d))
		if got, err := io.ReadAll(other); !bytes.Equal(got, b) || err != nil {
			t.Errorf("another's reading of Deflate of %s: %s, %v", brief(b), brief(got), err)
		}
		if len(b) < 10000 {
			say(t, "Deflate", d, len(b), string(b))
		}
		blocks, _ := flate.Blocks(d, len(b))
		for _, block := range blocks {
			kinds[block.Kind]++
		}
	}
	for kind := range 3 {
		if kinds[kind] == 0 {
			t.Error("no block of the kind", kind)
		}
	}
}

// P3.2, P3.3: all bytes of one, and many of two to six.
func TestDeflateShort(t *testing.T) {
	for a := range 256 {
		checkDeflate(t, []byte{byte(a)})
	}
	draw := draws(24)
	for n := range 3000 {
		checkDeflate(t, draw.bytes(2+n%5, 1+draw.below(256)))
	}
}

// P3.2: bytes by which single blocks are shorter than Stored or Fixed by little, or not at all.
func TestDeflateAtEdges(t *testing.T) {
	draw := draws(25)
	for n := 65500; n <= 65600; n += 7 {
		checkDeflate(t, draw.bytes(n, 256))
		checkDeflate(t, draw.bytes(n, 200))
	}
	for n := 16370; n <= 16400; n++ {
		checkDeflate(t, draw.bytes(n, 256))
		checkDeflate(t, draw.bytes(n, 144))
	}
	for kinds := 1; kinds <= 256; kinds++ {
		checkDeflate(t, draw.bytes(300, kinds))
	}
}

// P3.2, P3.3: bytes of which few stand often and many seldom, so that some codes of lengths, too, would have more bits than they may.
func TestDeflateUneven(t *testing.T) {
	draw := draws(29)
	for round := range 500 {
		b := make([]byte, 100+draw.below(6000))
		kinds, power := 20+draw.below(236), 1+float64(round%7)
		for i := range b {
			b[i] = byte(float64(kinds) * math.Pow(float64(draw.below(1<<30))/(1<<30), power))
		}
		checkDeflate(t, b)
	}
}

// P3.2, P3.3: what stands once more just as far back as a match may reach, and one byte further.
func TestDeflateFar(t *testing.T) {
	draw := draws(26)
	mark := []byte("a mark that stands twice, and is long enough to be worth a match")
	for _, between := range []int{0, 1, 257, 258, 259, 32766, 32767, 32768, 32769, 40000} {
		gap := draw.bytes(max(0, between-len(mark)), 100)
		d := checkDeflate(t, slices.Concat(mark, gap, mark))
		one := checkDeflate(t, slices.Concat(mark, gap))
		if got := len(d) - len(one); between <= 32768 && between >= len(mark) && got > 20 {
			t.Errorf("a mark once more, %d bytes back, takes %d bytes", between, got)
		}
	}
}

// P3.3: whatever stands behind it, Inflate of Deflate, Stored and Fixed is b and takes all their bytes.
func TestThereAndBack(t *testing.T) {
	draw := draws(27)
	for _, b := range samples() {
		for name, d := range map[string][]byte{"Deflate": flate.Deflate(b), "Stored": flate.Stored(b), "Fixed": flate.Fixed(b)} {
			for _, more := range [][]byte{nil, {0}, {255}, {7, 7, 7}, draw.bytes(9, 256), d} {
				got, n, errno := flate.Inflate(slices.Concat(d, more), len(b))
				if !bytes.Equal(got, b) || n != len(d) || errno != api.OK {
					t.Fatalf("Inflate of %s of %s: %s, %d of %d, %v", name, brief(b), brief(got), n, len(d), errno)
				}
			}
			if got := bytes.Join(slices.Collect(flate.Chunks(d, len(b))), nil); !bytes.Equal(got, b) {
				t.Fatalf("Chunks of %s of %s: %s", name, brief(b), brief(got))
			}
			if _, _, errno := flate.Inflate(d, len(b)-1); len(b) > 0 && errno != api.ErrLong {
				t.Fatalf("Inflate of %s of %s, a byte less: %v", name, brief(b), errno)
			}
		}
	}
}

// cutOff fails, if a beginning of d, of such a step of sizes, is not refused with ErrShort, or its whole blocks say anything but what those of d do.
func cutOff(t *testing.T, d []byte, by int) {
	t.Helper()
	whole := slices.Collect(flate.Chunks(d, 1<<30))
	for n := 0; n < len(d); n += by {
		if got, used, errno := flate.Inflate(d[:n], 1<<30); len(got) != 0 || used != 0 || errno != api.ErrShort {
			t.Fatalf("the first %d bytes of %s: %s, %d, %v", n, brief(d), brief(got), used, errno)
		}
		if got, errno := flate.Blocks(d[:n], 1<<30); len(got) != 0 || errno != api.ErrShort {
			t.Fatalf("the blocks of the first %d bytes of %s: %v, %v", n, brief(d), got, errno)
		}
		part := slices.Collect(flate.Chunks(d[:n], 1<<30))
		if len(part) >= len(whole) || !slices.EqualFunc(part, whole[:len(part)], bytes.Equal) {
			t.Fatalf("the chunks of the first %d bytes of %s are %d", n, brief(d), len(part))
		}
	}
}

// P3.4: deflated bytes that are cut off, at each of their places.
func TestCutOff(t *testing.T) {
	draw := draws(28)
	for _, b := range samples() {
		if len(b) > 700 {
			continue
		}
		for _, d := range [][]byte{flate.Deflate(b), flate.Stored(b), flate.Fixed(b)} {
			cutOff(t, d, 1)
		}
	}
	for range 60 {
		d := draw.stream()
		if _, n, errno := flate.Inflate(d, 1<<30); n != len(d) || errno != api.OK {
			t.Fatalf("Inflate(%s): %d, %v", brief(d), n, errno)
		}
		cutOff(t, d, 1)
	}
	b := slices.Concat(draw.bytes(70000, 256), bytes.Repeat([]byte("abcde"), 9000), draw.bytes(20000, 20))
	for _, d := range [][]byte{flate.Deflate(b), flate.Stored(b)} {
		cutOff(t, d, 1+len(d)/37)
		cutOff(t, d, len(d)-1)
	}
}

// P3.5: n equal bytes, from 300 on.
func TestEqualBytes(t *testing.T) {
	sizes := []int{65535, 65536, 100000, 1 << 20, 1<<22 + 17, 5000000}
	for n := 290; n < 3000; n += 1 + n/60 {
		sizes = append(sizes, n)
	}
	sizes = append(sizes, 299, 300, 301, 399, 400, 516, 517, 518, 774, 775)
	for _, n := range sizes {
		for _, c := range []byte{0, 'a', 143, 144, 255} {
			if n > 1<<20 && c != 'a' {
				continue
			}
			b := bytes.Repeat([]byte{c}, n)
			if d := checkDeflate(t, b); n >= 300 && len(d) > n/100+40 {
				t.Errorf("Deflate of %d bytes %d has %d bytes", n, c, len(d))
			}
		}
	}
}

// R4: the same bytes are deflated to the same ones, whatever came ahead.
func TestDeflateAgain(t *testing.T) {
	var first [][]byte
	for _, b := range samples() {
		first = append(first, flate.Deflate(b))
	}
	all := samples()
	for i := range all {
		k := len(all) - 1 - i
		if !bytes.Equal(flate.Deflate(all[k]), first[k]) {
			t.Errorf("Deflate of %s again", brief(all[k]))
		}
	}
}
