package flate_test

import (
	"bytes"
	"fmt"
	"slices"
	"testing"

	"gridiron/api"
	"gridiron/flate"
)

// reading is what a model of the format makes of bytes: the blocks ahead of what is wrong, with what they say.
type reading struct {
	blocks []api.Block
	chunks [][]byte
	used   int
	errno  api.Errno
}

// model reads bit by bit, and gives up by a panic with the error.
type model struct {
	bits  []byte
	at    int
	most  int
	all   []byte
	whole reading
}

// modelRead reads b as the chapter says it, from the front.
func modelRead(b []byte, most int) (got reading) {
	m := &model{bits: new(stream).raw(b...).bits, most: most}
	defer func() {
		if e := recover(); e != nil {
			m.whole.errno = e.(api.Errno)
			got = m.whole
		}
	}()
	if most < 0 {
		panic(api.ErrArg)
	}
	for !m.block() {
	}
	m.whole.used = (m.at + 7) / 8
	return m.whole
}

func (m *model) wrong(yes bool, errno api.Errno) {
	if yes {
		panic(errno)
	}
}

func (m *model) num(n int) int {
	v := 0
	for k := range n {
		m.wrong(m.at >= len(m.bits), api.ErrShort)
		v += int(m.bits[m.at]) << k
		m.at++
	}
	return v
}

// block reads a block and tells whether it is final.
func (m *model) block() bool {
	before := len(m.all)
	final, kind := m.num(1) == 1, m.num(2)
	switch kind {
	case 0:
		m.stored()
	case 1:
		m.symbols(slices.Concat(times(144, 8), times(112, 9), times(24, 7), times(8, 8)), times(32, 5))
	case 2:
		m.dynamic()
	case 3:
		panic(api.ErrBlock)
	}
	m.whole.blocks = append(m.whole.blocks, api.Block{Kind: kind, Final: final, Bytes: len(m.all) - before})
	m.whole.chunks = append(m.whole.chunks, bytes.Clone(m.all[before:]))
	return final
}

func (m *model) stored() {
	m.at = (m.at + 7) / 8 * 8
	length := m.num(16)
	m.wrong(m.num(16) != 65535-length, api.ErrBlock)
	m.wrong(len(m.all)+length > m.most, api.ErrLong)
	for range length {
		m.all = append(m.all, byte(m.num(8)))
	}
}

func (m *model) dynamic() {
	literals, distances, told := m.num(5)+257, m.num(5)+1, m.num(4)+4
	m.wrong(literals > 286 || distances > 30, api.ErrBlock)
	steps := make([]int, 19)
	for _, symbol := range order()[:told] {
		steps[symbol] = m.num(3)
	}
	m.check(steps)
	codes := table(steps)
	var l []int
	for len(l) < literals+distances {
		symbol := m.symbol(codes)
		again := []int{symbol}
		switch symbol {
		case 16:
			m.wrong(len(l) == 0, api.ErrBlock)
			again = times(3+m.num(2), l[len(l)-1])
		case 17:
			again = times(3+m.num(3), 0)
		case 18:
			again = times(11+m.num(7), 0)
		}
		l = append(l, again...)
		m.wrong(len(l) > literals+distances, api.ErrBlock)
	}
	m.wrong(l[256] == 0, api.ErrBlock)
	m.check(l[:literals])
	m.check(l[literals:])
	m.symbols(l[:literals], l[literals:])
}

// check holds the room of lengths against 1, as a sum of halves, quarters and so on.
func (m *model) check(lengths []int) {
	room, symbols := 0.0, 0
	for _, length := range lengths {
		if length > 0 {
			room += 1 / float64(int(1)<<length)
			symbols++
		}
	}
	m.wrong(room != 1 && symbols != 0 && (symbols != 1 || room != 0.5), api.ErrCode)
}

// table leads from the text of a code to its symbol.
func table(lengths []int) map[string]int {
	codes := map[string]int{}
	for symbol, text := range texts(lengths) {
		if text != "" {
			codes[text] = symbol
		}
	}
	return codes
}

// symbol reads bits until they are a symbol's code, or can be none's any more.
func (m *model) symbol(codes map[string]int) int {
	text := ""
	for {
		text += string(rune('0' + m.num(1)))
		if symbol, ok := codes[text]; ok {
			return symbol
		}
		begun := len(codes) > 1 && len(text) < 15
		m.wrong(!begun, api.ErrCode)
	}
}

func (m *model) symbols(literalLengths, distanceLengths []int) {
	literals, distances := table(literalLengths), table(distanceLengths)
	for {
		symbol := m.symbol(literals)
		if symbol == 256 {
			return
		}
		if symbol < 256 {
			m.wrong(len(m.all) >= m.most, api.ErrLong)
			m.all = append(m.all, byte(symbol))
			continue
		}
		m.wrong(symbol > 285, api.ErrCode)
		l := lengthRows()[symbol-257]
		length := l.first + m.num(l.bits)
		far := m.symbol(distances)
		m.wrong(far > 29, api.ErrCode)
		d := distanceRows()[far]
		distance := d.first + m.num(d.bits)
		m.wrong(distance > len(m.all), api.ErrFar)
		m.wrong(len(m.all)+length > m.most, api.ErrLong)
		for range length {
			m.all = append(m.all, m.all[len(m.all)-distance])
		}
	}
}

// hold holds Inflate, Blocks and Chunks of b against the model, and tells what that reads.
func hold(t *testing.T, b []byte, most int) reading {
	t.Helper()
	want := modelRead(b, most)
	var all []byte
	blocks, used := want.blocks, want.used
	if want.errno != api.OK {
		blocks = nil
	} else {
		all = bytes.Join(want.chunks, nil)
	}
	if got, n, errno := flate.Inflate(b, most); !bytes.Equal(got, all) || n != used || errno != want.errno {
		t.Fatalf("Inflate(%s, %d): %s, %d, %v; want %s, %d, %v", brief(b), most, brief(got), n, errno, brief(all), used, want.errno)
	}
	if got, errno := flate.Blocks(b, most); !slices.Equal(got, blocks) || errno != want.errno {
		t.Fatalf("Blocks(%s, %d): %v, %v; want %v, %v", brief(b), most, got, errno, blocks, want.errno)
	}
	if got := slices.Collect(flate.Chunks(b, most)); !slices.EqualFunc(got, want.chunks, bytes.Equal) {
		t.Fatalf("Chunks(%s, %d): %d chunks, want %d", brief(b), most, len(got), len(want.chunks))
	}
	return want
}

// brief is the first bytes of b as a text.
func brief(b []byte) string {
	return fmt.Sprintf("%d: % x", len(b), b[:min(60, len(b))])
}

// refuse fails, if b is not refused with that error, by the model, too.
func refuse(t *testing.T, why string, b []byte, most int, errno api.Errno) {
	t.Helper()
	if got := hold(t, b, most); got.errno != errno {
		t.Errorf("%s: %v, want %v", why, got.errno, errno)
	}
}

// say fails, if b does not say that text, with all of its bytes, by the model, too.
func say(t *testing.T, why string, b []byte, most int, text string) {
	t.Helper()
	got := hold(t, b, most)
	if all := string(bytes.Join(got.chunks, nil)); got.errno != api.OK || all != text || got.used != len(b) {
		t.Errorf("%s: %s, %d of %d, %v; want %s", why, brief([]byte(all)), got.used, len(b), got.errno, brief([]byte(text)))
	}
}
