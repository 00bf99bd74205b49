package flate_test

import (
	"bytes"
	"slices"
	"strings"
	"testing"

	"gridiron/api"
	"gridiron/flate"
)

// three is deflated bytes of four blocks, one of them empty, whose matches reach back into those ahead.
func three() []byte {
	s := new(stream).stored(0, []byte("abc")).head(0, api.BFixed).match(4, 3).symbol(256).stored(0, nil)
	return s.head(1, api.BFixed).match(3, 7).literals("!").symbol(256).bytes()
}

func chunkTexts(b []byte, most int) []string {
	var out []string
	for c := range flate.Chunks(b, most) {
		out = append(out, string(c))
	}
	return out
}

// P3.1: what the blocks say, block by block, empty ones too.
func TestChunks(t *testing.T) {
	want := []string{"abc", "abca", "", "abc!"}
	for _, most := range []int{11, 12, 1 << 40} {
		if got := chunkTexts(three(), most); !slices.Equal(got, want) {
			t.Errorf("Chunks, %d: %q", most, got)
		}
	}
	say(t, "all of it", three(), 11, strings.Join(want, ""))
	if got := chunkTexts([]byte{3, 0}, 0); !slices.Equal(got, []string{""}) {
		t.Errorf("Chunks of an empty block: %q", got)
	}
	if got := chunkTexts(nil, 9); len(got) != 0 {
		t.Errorf("Chunks of no bytes: %q", got)
	}
}

// P3.1: nothing of a block in which something is wrong, and nothing behind it.
func TestChunksUpToWrong(t *testing.T) {
	for most, want := range map[int][]string{
		-1: nil, 0: nil, 2: nil, 3: {"abc"}, 6: {"abc"}, 7: {"abc", "abca", ""}, 9: {"abc", "abca", ""}, 10: {"abc", "abca", ""},
	} {
		if got := chunkTexts(three(), most); !slices.Equal(got, want) {
			t.Errorf("Chunks, %d: %q, want %q", most, got, want)
		}
	}
	spoilt := new(stream).stored(0, []byte("ab")).head(0, api.BFixed).literals("cd").match(3, 5).symbol(256).stored(1, []byte("e"))
	if got := chunkTexts(spoilt.bytes(), 99); !slices.Equal(got, []string{"ab"}) {
		t.Errorf("Chunks up to a match that is too far: %q", got)
	}
}

// R3: left early at each place, gone over again, and nested.
func TestChunksLeft(t *testing.T) {
	want := chunkTexts(three(), 99)
	chunks := flate.Chunks(three(), 99)
	for stop := range len(want) + 1 {
		var got []string
		for c := range chunks {
			if len(got) == stop {
				break
			}
			got = append(got, string(c))
		}
		if !slices.Equal(got, want[:stop]) {
			t.Errorf("left behind %d: %q", stop, got)
		}
	}
	pairs := 0
	for a := range chunks {
		inner := 0
		for b := range chunks {
			if string(b) != want[inner] || string(a) != want[pairs/len(want)] {
				t.Fatalf("nested: %q, %q at %d, %d", a, b, pairs/len(want), inner)
			}
			inner++
			pairs++
		}
	}
	if pairs != len(want)*len(want) {
		t.Error("pairs:", pairs)
	}
}

// R3: what is told is as it was when the iterator was asked for.
func TestChunksAsAsked(t *testing.T) {
	b := three()
	want := chunkTexts(b, 99)
	chunks := flate.Chunks(b, 99)
	clear(b)
	for range 2 {
		var got []string
		for c := range chunks {
			got = append(got, string(c))
			b[0]++
		}
		if !slices.Equal(got, want) {
			t.Errorf("behind a change: %q", got)
		}
	}
}

// R3: a chunk that is changed, its spare room too, changes nothing that is told later.
func TestChunksAreNew(t *testing.T) {
	want := chunkTexts(three(), 99)
	chunks := flate.Chunks(three(), 99)
	for range 2 {
		var kept [][]byte
		var got []string
		for c := range chunks {
			got = append(got, string(c))
			for i := range c[:cap(c)] {
				c[:cap(c)][i] = 'Z'
			}
			kept = append(kept, append(c, "ZZZZZZZZZZ"...))
		}
		if !slices.Equal(got, want) {
			t.Errorf("behind changes: %q", got)
		}
		for _, c := range kept {
			if strings.Trim(string(c), "Z") != "" {
				t.Errorf("a chunk was changed: %q", c)
			}
		}
	}
}

// R3: what is handed in is as it was, and so is the room behind its end.
func TestHandedInStays(t *testing.T) {
	text := strings.Repeat("abcab", 30)
	for _, b := range [][]byte{three(), []byte(text), {1, 1, 0, 254, 255, 97}, {7}, nil} {
		own := spare(b)
		want := bytes.Clone(own[:len(b)+3])
		flate.Inflate(own, 1000)
		flate.Blocks(own, 1000)
		for range flate.Chunks(own, 1000) {
		}
		flate.Stored(own)
		flate.Fixed(own)
		flate.Deflate(own)
		if !bytes.Equal(own[:len(b)+3], want) {
			t.Errorf("changed: %s, was %s", brief(own[:len(b)+3]), brief(want))
		}
	}
}

// R3: answers are memory of their own, their spare room too.
func TestAnswersAreNew(t *testing.T) {
	text := []byte("abcabcabcabc!")
	calls := map[string]func([]byte) []byte{
		"Stored": flate.Stored, "Fixed": flate.Fixed, "Deflate": flate.Deflate,
		"Inflate": func(b []byte) []byte {
			got, _, _ := flate.Inflate(b, 1<<20)
			return got
		},
	}
	for name, call := range calls {
		in := bytes.Clone(text)
		if name == "Inflate" {
			in = flate.Stored(text)
		}
		before := bytes.Clone(in)
		first := call(in)
		want := bytes.Clone(first)
		clear(first[:cap(first)])
		if !bytes.Equal(in, before) {
			t.Error(name, "shares memory with its argument")
		}
		second := call(in)
		clear(in)
		if !bytes.Equal(second, want) {
			t.Error(name, "again:", second, want)
		}
	}
	blocks, _ := flate.Blocks(three(), 99)
	again, _ := flate.Blocks(three(), 99)
	clear(blocks[:cap(blocks)])
	if len(again) != 4 || !again[3].Final || again[3].Bytes != 4 {
		t.Error("Blocks share memory:", again)
	}
}
