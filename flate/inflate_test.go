package flate_test

import (
	"bytes"
	stdflate "compress/flate"
	"math"
	"slices"
	"strings"
	"testing"

	"gridiron/api"
	"gridiron/flate"
)

// P3.1: the chapter's examples.
func TestInflateExamples(t *testing.T) {
	for _, b := range [][]byte{{1, 0, 0, 255, 255}, {3, 0}} {
		if got, n, errno := flate.Inflate(b, 0); len(got) != 0 || n != len(b) || errno != api.OK {
			t.Errorf("Inflate(%v): %v, %d, %v", b, got, n, errno)
		}
		say(t, "nothing", b, 0, "")
	}
	refuse(t, "kind 3", []byte{7}, 0, api.ErrBlock)
	refuse(t, "no bytes", nil, 0, api.ErrShort)
	refuse(t, "no bytes", []byte{}, 9, api.ErrShort)
}

// P3.1: the kinds of blocks, one behind the other, at each place within a byte.
func TestBlocks(t *testing.T) {
	for turn := range 8 {
		s := new(stream)
		for range turn {
			s.head(0, api.BFixed).symbol(256)
		}
		s.head(0, api.BFixed).literals("ab").symbol(256).stored(0, []byte("cd"))
		s.head(0, api.BFixed).literals("e").symbol(256).stored(0, nil).stored(1, []byte("f"))
		b := s.bytes()
		say(t, "blocks", b, 6, "abcdef")
		want := slices.Concat(slices.Repeat([]api.Block{{Kind: api.BFixed}}, turn), []api.Block{
			{Kind: api.BFixed, Bytes: 2}, {Kind: api.BStored, Bytes: 2}, {Kind: api.BFixed, Bytes: 1}, {Kind: api.BStored}, {Kind: api.BStored, Final: true, Bytes: 1},
		})
		if got, errno := flate.Blocks(b, 6); !slices.Equal(got, want) || errno != api.OK {
			t.Errorf("Blocks: %v, %v, want %v", got, errno, want)
		}
		refuse(t, "one byte more than there may be", b, 5, api.ErrLong)
	}
}

// P3.1: stored blocks of no bytes, of as many as there can be, and of one more in two of them.
func TestStoredBlocks(t *testing.T) {
	draw := draws(1)
	for _, n := range []int{0, 1, 2, 255, 256, 257, 65534, 65535} {
		b := draw.bytes(n, 256)
		say(t, "one stored block", new(stream).stored(1, b).bytes(), n, string(b))
	}
	b := draw.bytes(65536, 256)
	for _, cut := range []int{1, 40000, 65535} {
		say(t, "two stored blocks", new(stream).stored(0, b[:cut]).stored(1, b[cut:]).bytes(), len(b), string(b))
	}
}

// P3.1: the rest of the byte ahead of a stored block is passed over, whatever stands there.
func TestStoredPassesOver(t *testing.T) {
	for turn := range 8 {
		s := new(stream)
		for range turn {
			s.head(0, api.BFixed).symbol(256)
		}
		s.head(1, api.BStored).fill(1).num(1, 16).num(0xFFFE, 16).raw('x')
		say(t, "ones ahead of a stored block", s.bytes(), 1, "x")
	}
}

// P3.1: a complement that is another one, by each of its bits.
func TestStoredComplement(t *testing.T) {
	for _, length := range []int{0, 1, 0xFF, 0x100, 0xABCD, 0xFFFF} {
		for bit := range 16 {
			s := new(stream).head(1, 0).fill(0).num(length, 16).num(^length^1<<bit, 16)
			refuse(t, "another complement", s.bytes(), 1<<16, api.ErrBlock)
		}
		s := new(stream).head(1, 0).fill(0).num(length, 16).num(length, 16)
		refuse(t, "no complement", s.bytes(), 1<<16, api.ErrBlock)
	}
}

// P3.1: a kind that there is not, in the first block and in a later one, whether it is final or not.
func TestKindThree(t *testing.T) {
	for final := range 2 {
		refuse(t, "kind 3", new(stream).head(final, 3).bytes(), 9, api.ErrBlock)
		s := new(stream).stored(0, []byte("ab")).head(final, 3)
		refuse(t, "kind 3 behind a block", s.bytes(), 9, api.ErrBlock)
	}
	// two bits of three: a kind that is not there yet
	s := new(stream)
	for len(s.bits)%8 != 6 {
		s.head(0, api.BFixed).symbol(256)
	}
	refuse(t, "half a kind", s.num(3, 2).bytes(), 9, api.ErrShort)
}

// P3.1: each literal by the fixed code.
func TestFixedLiterals(t *testing.T) {
	s, all := new(stream).head(1, api.BFixed), []byte{}
	for c := range 256 {
		s.symbol(c)
		all = append(all, byte(c))
	}
	say(t, "all literals", s.symbol(256).bytes(), 256, string(all))
}

// P3.1: every length from 3 to 258, and 258 by the symbol 284, too.
func TestEveryLength(t *testing.T) {
	for length := 3; length <= 258; length++ {
		s := new(stream).head(1, api.BFixed).literals("abc").match(length, 3).literals("z").symbol(256)
		want := strings.Repeat("abc", 90)[:3+length] + "z"
		say(t, "a length", s.bytes(), 4+length, want)
	}
	s := new(stream).head(1, api.BFixed).literals("q").symbol(284).num(31, 5).far(0).symbol(256)
	say(t, "284 with all its bits", s.bytes(), 259, strings.Repeat("q", 259))
}

// P3.1: each distance's symbol, with its first and its last distance.
func TestEveryDistance(t *testing.T) {
	draw := draws(2)
	ahead := draw.bytes(32768, 256)
	for symbol, d := range distanceRows() {
		for _, distance := range []int{d.first, d.first + 1<<d.bits - 1} {
			s := new(stream).stored(0, ahead).head(1, api.BFixed).symbol(257).far(symbol).num(distance-d.first, d.bits).symbol(256)
			want := bytes.Clone(ahead)
			for range 3 {
				want = append(want, want[len(want)-distance])
			}
			say(t, "a distance", s.bytes(), len(want), string(want))
		}
	}
	if last := distanceRows()[29]; last.first != 24577 || last.first+1<<last.bits-1 != 32768 {
		t.Error("the last distance:", last)
	}
}

// P3.1: matches that reach into themselves, by each distance below their length.
func TestMatchIntoItself(t *testing.T) {
	for length := range 259 {
		for distance := 1; distance <= 5 && length >= 3; distance++ {
			s := new(stream).head(1, api.BFixed).literals("abcde").match(length, distance).symbol(256)
			want := "abcde" + strings.Repeat("abcde"[5-distance:], length)[:length]
			say(t, "a match into itself", s.bytes(), 5+length, want)
		}
	}
	s := new(stream).head(1, api.BFixed).literals("0123456789").match(258, 10).match(258, 257).match(4, 258).symbol(256)
	hold(t, s.bytes(), math.MaxInt)
}

// P3.1: the symbols 285, 286 and 287, and the distances 29, 30 and 31.
func TestSymbolsBeyond(t *testing.T) {
	ahead := strings.Repeat("0123456789abcdef", 2048)
	s := new(stream).head(1, api.BFixed).literals("k").symbol(285).far(0).symbol(256)
	say(t, "285", s.bytes(), 259, strings.Repeat("k", 259))
	for _, symbol := range []int{286, 287} {
		s := new(stream).head(1, api.BFixed).literals("k").symbol(symbol).far(0).symbol(256)
		refuse(t, "a symbol beyond", s.bytes(), 1000, api.ErrCode)
	}
	s = new(stream).stored(0, []byte(ahead)).head(1, api.BFixed).symbol(257).far(29).num(8191, 13).symbol(256)
	say(t, "29", s.bytes(), 40000, ahead+ahead[:3])
	for _, far := range []int{30, 31} {
		s := new(stream).stored(0, []byte(ahead)).head(1, api.BFixed).symbol(257).far(far).num(0, 14).symbol(256)
		refuse(t, "a distance's symbol beyond", s.bytes(), 40000, api.ErrCode)
	}
}

// P3.1: a distance of all bytes so far, and of one more; blocks ahead count.
func TestFar(t *testing.T) {
	for n := 1; n <= 40; n++ {
		text := strings.Repeat("abcdefghij", 4)[:n]
		for _, cut := range []int{0, n / 2, n} {
			put := func(distance int) []byte {
				return new(stream).stored(0, []byte(text[:cut])).head(1, api.BFixed).literals(text[cut:]).match(3, distance).symbol(256).bytes()
			}
			say(t, "all bytes so far", put(n), 99, text+strings.Repeat(text, 3)[:3])
			refuse(t, "one byte more", put(n+1), 99, api.ErrFar)
		}
	}
	refuse(t, "a match ahead of all", new(stream).head(1, api.BFixed).match(3, 1).bytes(), 99, api.ErrFar)
	refuse(t, "a match far ahead of all", new(stream).head(1, api.BFixed).literals("a").match(3, 32768).bytes(), 99, api.ErrFar)
}

// P3.1, R1: most of below 0, ahead of all else; the greatest one.
func TestMostBelow(t *testing.T) {
	for _, most := range []int{-1, -2, math.MinInt} {
		for _, b := range [][]byte{nil, {7}, {3, 0}, {1, 1, 0, 254, 255, 97}, {1, 1}} {
			refuse(t, "most below 0", b, most, api.ErrArg)
			for c := range flate.Chunks(b, most) {
				t.Error("a chunk:", c)
			}
		}
	}
	say(t, "the greatest most", flate.Stored([]byte("abc")), math.MaxInt, "abc")
	refuse(t, "the greatest most", []byte{7}, math.MaxInt, api.ErrBlock)
}

// P3.1: most of 0, of just as many bytes and of one less, at a literal, at a match, and at a stored block.
func TestMost(t *testing.T) {
	for _, x := range []struct {
		why  string
		b    []byte
		text string
	}{
		{"a literal", new(stream).head(1, api.BFixed).literals("abc").symbol(256).bytes(), "abc"},
		{"a match", new(stream).head(1, api.BFixed).literals("a").match(4, 1).symbol(256).bytes(), "aaaaa"},
		{"a stored block", new(stream).stored(1, []byte("abcdef")).bytes(), "abcdef"},
		{"a later block", new(stream).stored(0, []byte("ab")).stored(1, []byte("c")).bytes(), "abc"},
		{"a dynamic block", new(stream).block(some(257, map[int]int{'x': 1, 256: 1}), []int{0}).code("001").bytes(), "xx"},
	} {
		say(t, x.why, x.b, len(x.text), x.text)
		say(t, x.why, x.b, len(x.text)+1, x.text)
		for most := range x.text {
			refuse(t, x.why, x.b, most, api.ErrLong)
		}
	}
}

// P3.1: what stands behind the final block is not looked at, nor are the rest of its last byte's bits.
func TestBytesBehind(t *testing.T) {
	draw := draws(3)
	for _, text := range []string{"", "a", "abcabcabcabc", strings.Repeat("ab", 500)} {
		for _, b := range [][]byte{flate.Stored([]byte(text)), flate.Fixed([]byte(text)), flate.Deflate([]byte(text))} {
			for n := range 4 {
				more := append(bytes.Clone(b), draw.bytes(n, 256)...)
				if got := hold(t, more, len(text)); got.errno != api.OK || got.used != len(b) {
					t.Errorf("with %d bytes behind: %d of %d, %v", n, got.used, len(b), got.errno)
				}
			}
		}
	}
	say(t, "ones behind the end", new(stream).head(1, api.BFixed).literals("a").symbol(256).fill(1).bytes(), 1, "a")
	s := new(stream).stored(1, []byte("a")).head(1, 3).stored(1, []byte("b"))
	if got, n, errno := flate.Inflate(s.bytes(), 1); string(got) != "a" || n != 6 || errno != api.OK {
		t.Error("blocks behind the final one:", got, n, errno)
	}
}

// P3.1, R2: the first thing that is wrong, where two things are.
func TestFirstWrong(t *testing.T) {
	head := func(final, kind int) *stream { return new(stream).head(final, kind) }
	fixed := func() *stream { return head(1, api.BFixed) }
	refuse(t, "length and complement, one byte less", []byte{1, 1, 0, 0}, 9, api.ErrShort)
	refuse(t, "complement ahead of most", head(1, 0).fill(0).num(5, 16).num(5, 16).bytes(), 0, api.ErrBlock)
	refuse(t, "complement ahead of bytes that are not there", head(1, 0).fill(0).num(5, 16).num(5, 16).bytes(), 9, api.ErrBlock)
	refuse(t, "most ahead of bytes that are not there", head(1, 0).fill(0).num(5, 16).num(^5, 16).bytes(), 4, api.ErrLong)
	refuse(t, "bytes that are not there", head(1, 0).fill(0).num(5, 16).num(^5, 16).raw(1, 2, 3, 4).bytes(), 5, api.ErrShort)
	refuse(t, "most at a literal ahead of the end", fixed().literals("ab").bytes(), 1, api.ErrLong)
	refuse(t, "the end behind literals", fixed().literals("ab").bytes(), 2, api.ErrShort)
	refuse(t, "far ahead of most", fixed().literals("a").match(9, 2).symbol(256).bytes(), 5, api.ErrFar)
	refuse(t, "most at a match", fixed().literals("a").match(9, 1).symbol(256).bytes(), 9, api.ErrLong)
	refuse(t, "a distance's symbol ahead of most", fixed().literals("a").symbol(285).far(30).bytes(), 5, api.ErrCode)
	refuse(t, "286 ahead of most", fixed().literals("a").symbol(286).bytes(), 1, api.ErrCode)
	refuse(t, "most, then kind 3", new(stream).stored(0, []byte("ab")).head(1, 3).bytes(), 1, api.ErrLong)
	refuse(t, "kind 3, then nothing", new(stream).stored(0, []byte("ab")).head(1, 3).bytes(), 2, api.ErrBlock)
	refuse(t, "no block behind one that is not final", new(stream).stored(0, []byte("ab")).bytes(), 2, api.ErrShort)
	refuse(t, "far, then kind 3", head(0, api.BFixed).match(3, 1).symbol(256).head(1, 3).bytes(), 9, api.ErrFar)
}

// P3.1, R2: 286, 287 and the distances 30 and 31 are wrong as soon as their last bit is there.
func TestWrongAtTheLastByte(t *testing.T) {
	// at is s behind other blocks, so that just so many bits of the last byte are free
	at := func(s *stream, bits int) *stream {
		ahead := new(stream)
		if (len(s.bits)+bits)%2 == 1 {
			ahead.head(0, api.BFixed).symbol(200).symbol(256) // 19 bits, and one byte
		}
		for (len(ahead.bits)+len(s.bits)+bits)%8 != 0 {
			ahead.head(0, api.BFixed).symbol(256) // 10 bits
		}
		ahead.bits = append(ahead.bits, s.bits...)
		return ahead
	}
	for _, symbol := range []int{286, 287} {
		s := at(new(stream).head(1, api.BFixed), 8).symbol(symbol)
		refuse(t, "a symbol that ends with the bytes", s.bytes(), 9, api.ErrCode)
	}
	for _, far := range []int{30, 31} {
		s := at(new(stream).head(1, api.BFixed).literals("a").symbol(257), 5).far(far)
		refuse(t, "a distance that ends with the bytes", s.bytes(), 9, api.ErrCode)
	}
	s := at(new(stream).head(1, api.BFixed).literals("a").symbol(257), 5).far(4)
	refuse(t, "a distance without its bit", s.bytes(), 9, api.ErrShort)
	s = at(new(stream).head(1, api.BFixed).literals("a"), 7).symbol(265)
	refuse(t, "a length without its bit", s.bytes(), 9, api.ErrShort)
	s = at(new(stream).head(1, api.BFixed).literals("a"), 7).symbol(257)
	refuse(t, "a length without a distance", s.bytes(), 9, api.ErrShort)
	s = at(new(stream).head(1, api.BFixed), 8).literals("a")
	refuse(t, "a literal without an end", s.bytes(), 1, api.ErrLong)
	refuse(t, "a literal without an end", s.bytes(), 2, api.ErrShort)
}

// P3.1: what another deflater makes is read, at each of its levels.
func TestInflateOthers(t *testing.T) {
	for _, b := range samples() {
		for level := stdflate.HuffmanOnly; level <= stdflate.BestCompression; level++ {
			var buf bytes.Buffer
			w, err := stdflate.NewWriter(&buf, level)
			if err != nil {
				t.Fatal(err)
			}
			w.Write(b[:len(b)/3])
			w.Flush()
			w.Write(b[len(b)/3:])
			w.Close()
			if got, n, errno := flate.Inflate(buf.Bytes(), len(b)); !bytes.Equal(got, b) || n != buf.Len() || errno != api.OK {
				t.Fatalf("Inflate of another's level %d: %s, %d of %d, %v", level, brief(got), n, buf.Len(), errno)
			}
			if _, _, errno := flate.Inflate(buf.Bytes(), len(b)-1); len(b) > 0 && errno != api.ErrLong {
				t.Fatalf("Inflate of another's level %d, a byte less: %v", level, errno)
			}
		}
	}
}

// P3.1, R1: all bytes of one and of two, and many of three, are read as the model reads them.
func TestShortBytes(t *testing.T) {
	for a := range 256 {
		hold(t, []byte{byte(a)}, 9)
		for b := range 256 {
			hold(t, []byte{byte(a), byte(b)}, b%3)
		}
	}
	draw := draws(4)
	for range 3000 {
		hold(t, draw.bytes(3+draw.below(4), 256), draw.below(300))
	}
}

// P3.1, R1: deflated bytes with bits turned over, bytes put in and left out are read as the model reads them.
func TestSpoiltBytes(t *testing.T) {
	draw := draws(5)
	seen := map[api.Errno]int{}
	for round := range 6000 {
		b := draw.stream()
		most := draw.below(400)
		if round%2 == 0 {
			most = 1 << 20
		}
		for range draw.below(4) {
			at := draw.below(len(b))
			switch draw.below(4) {
			case 0:
				b = slices.Delete(b, at, at+1)
			case 1:
				b = slices.Insert(b, at, byte(draw.below(256)))
			default:
				b[at] ^= 1 << draw.below(8)
			}
			b = append(b, byte(draw.below(256)))
		}
		seen[hold(t, b, most).errno]++
	}
	for _, errno := range []api.Errno{api.OK, api.ErrLong, api.ErrBlock, api.ErrCode, api.ErrFar, api.ErrShort} {
		if seen[errno] < 20 {
			t.Errorf("%v was seen %d times", errno, seen[errno])
		}
	}
}

// stream is deflated bytes of a few blocks of all kinds.
func (d *draws) stream() []byte {
	s := new(stream)
	for last := d.below(3); last >= 0; last-- {
		final := 0
		if last == 0 {
			final = 1
		}
		size := 0
		switch d.below(4) {
		case 0:
			s.stored(final, d.bytes(d.below(20), 256))
			continue
		case 1:
			s.head(final, api.BFixed)
			d.symbols(s, &size, texts(fixedLiteralLengths()), texts(times(30, 5)))
		default:
			literals := d.lengths(2+d.below(200), 0)
			literals = append(literals, make([]int, max(0, 257+d.below(30)-len(literals)))...)
			end := d.below(len(literals))
			for literals[end] == 0 {
				end = (end + 1) % len(literals)
			}
			literals[end], literals[256] = literals[256], literals[end]
			distances := [][]int{{0}, {1}, {0, 1}, d.lengths(2+d.below(20), d.below(8))}[d.below(4)]
			s.block(literals, distances)
			s.bits[len(s.bits)-headBits(literals, distances)] = byte(final)
			d.symbols(s, &size, texts(literals), texts(distances))
		}
	}
	return s.bytes()
}

// headBits is how many bits block puts for these lengths.
func headBits(literals, distances []int) int {
	return len(new(stream).block(literals, distances).bits)
}

// fixedLiteralLengths are those of the fixed code.
func fixedLiteralLengths() []int {
	return slices.Concat(times(144, 8), times(112, 9), times(24, 7), times(8, 8))
}

// symbols puts some symbols by these codes, matches that reach back no further than there are bytes, and the end.
func (d *draws) symbols(s *stream, size *int, literals, distances []string) {
	for range d.below(30) {
		symbol := d.below(min(286, len(literals)))
		if literals[symbol] == "" || symbol == 256 {
			continue
		}
		if symbol < 256 {
			s.code(literals[symbol])
			*size++
			continue
		}
		far := d.below(min(30, len(distances)))
		if distances[far] == "" || distanceRows()[far].first > *size {
			continue
		}
		l := lengthRows()[symbol-257]
		more := d.below(1 << l.bits)
		s.code(literals[symbol]).num(more, l.bits).code(distances[far]).num(0, distanceRows()[far].bits)
		*size += l.first + more
	}
	s.code(literals[256])
}
