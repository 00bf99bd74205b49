package markup_test

import (
	"bytes"
	"slices"
	"strings"
	"sync"
	"testing"
	"unsafe"

	"gridiron/api"
	"gridiron/markup"
)

// roomy is b with room behind its end, which is filled.
func roomy(b []byte) []byte {
	all := append(append(make([]byte, 0, len(b)+64), b...), bytes.Repeat([]byte{0xA5}, 64)...)
	return all[:len(b)]
}

// fill puts c everywhere, in the room behind the end too.
func fill(b []byte, c byte) {
	b = b[:cap(b)]
	for i := range b {
		b[i] = c
	}
}

// deep is a copy of tokens that shares nothing with them.
func deep(l []api.Token) []api.Token {
	var all []api.Token
	for _, token := range l {
		token.Space, token.Local, token.Text = strings.Clone(token.Space), strings.Clone(token.Local), strings.Clone(token.Text)
		var attrs []api.Attr
		for _, a := range token.Attrs {
			attrs = append(attrs, attr(strings.Clone(a.Space), strings.Clone(a.Local), strings.Clone(a.Value)))
		}
		token.Attrs = attrs
		all = append(all, token)
	}
	return all
}

const kept = "<p:a xmlns:p='u' p:x='1' y=' &lt;'>text<b z='3' y='4'/>&#65;<![CDATA[cdata]]>\r\n<c/></p:a>"

// R3: Tokens and All change nothing that is handed in, nor what lies behind it, and keep none of it.
func TestMemory(t *testing.T) {
	for _, doc := range []string{kept, kept + "<", kept[:50], "", "\xff"} {
		want := told(t, doc)
		b := roomy([]byte(doc))
		own := slices.Clone(b[:cap(b)])
		tokens, _, errno := markup.Tokens(b)
		before := deep(tokens)
		seq := markup.All(b)
		if !bytes.Equal(b[:cap(b)], own) {
			t.Error("what was handed in has changed")
		}
		fill(b, 'x')
		if !slices.EqualFunc(tokens, before, alike) || errno == api.OK && !slices.EqualFunc(tokens, want, alike) {
			t.Errorf("Tokens(%q) share memory with the document", doc)
		}
		var all []api.Token
		for _, token := range seq {
			fill(b, 'y')
			all = append(all, token)
		}
		if !slices.EqualFunc(all, want, alike) {
			t.Errorf("All(%q) shares memory with the document: %v", doc, all)
		}
	}
}

// R3: no two lists of attributes share memory, their spare room too, and what is done with one pass's is nothing to the next.
func TestMemoryOfAttributes(t *testing.T) {
	tokens, _, _ := markup.Tokens([]byte(kept))
	want := deep(tokens)
	for i := range tokens {
		attrs := tokens[i].Attrs[:cap(tokens[i].Attrs)]
		for k := range attrs {
			attrs[k] = attr("spoilt", "spoilt", "spoilt")
		}
		for k := range tokens {
			if k != i && !alike(tokens[k], want[k]) {
				t.Errorf("the tokens %d and %d share memory", i, k)
			}
		}
		copy(tokens[i].Attrs, want[i].Attrs)
	}
	seq := markup.All([]byte(kept))
	for range 3 {
		n := 0
		for i, token := range seq {
			if !alike(token, want[i]) {
				t.Errorf("token %d is %v", i, token)
			}
			for k := range token.Attrs[:cap(token.Attrs)] {
				token.Attrs[:cap(token.Attrs)][k] = attr("spoilt", "spoilt", "spoilt")
			}
			n++
		}
		if n != len(want) {
			t.Error("tokens:", n)
		}
	}
}

// R3: Get and Same change nothing of the tokens; the value is new memory.
func TestMemoryOfGet(t *testing.T) {
	tokens, _, _ := markup.Tokens([]byte(kept))
	want := deep(tokens)
	value, ok := markup.Get(tokens[0], "u", "x")
	if !ok || value != "1" || unsafe.StringData(value) == unsafe.StringData(tokens[0].Attrs[0].Value) {
		t.Error("the value is the token's own")
	}
	other := deep(tokens)
	slices.Reverse(other[0].Attrs)
	reversed := deep(other)
	if !markup.Same(tokens, other) || !slices.EqualFunc(tokens, want, alike) || !slices.EqualFunc(other, reversed, alike) {
		t.Error("Same or Get has changed tokens")
	}
}

// R4: calls know nothing of each other, at the same time too.
func TestApart(t *testing.T) {
	docs := []string{kept, "<a xmlns:p='v'><p:b/></a>", "<p:a/>", "<a>&x;</a>", iterated}
	var wants [][]api.Token
	for _, doc := range docs {
		wants = append(wants, told(t, doc))
	}
	seq := markup.All([]byte(kept))
	var all sync.WaitGroup
	for i := range 40 {
		all.Go(func() {
			k := i % len(docs)
			for range 20 {
				var got []api.Token
				for _, token := range markup.All([]byte(docs[k])) {
					got = append(got, token)
				}
				if !slices.EqualFunc(got, wants[k], alike) {
					t.Errorf("All(%q): %v", docs[k], got)
				}
				n := 0
				for i, token := range seq {
					if !alike(token, wants[0][i]) {
						t.Errorf("All(%q): %v", kept, token)
					}
					n++
				}
				if n != len(wants[0]) {
					t.Errorf("All(%q): %d tokens", kept, n)
				}
			}
		})
	}
	all.Wait()
}

// R3: nil and empty documents are the same.
func TestNil(t *testing.T) {
	for _, b := range [][]byte{nil, {}} {
		if l, at, errno := markup.Tokens(b); len(l) != 0 || at != 0 || errno != api.ErrMarkup {
			t.Error("Tokens:", l, at, errno)
		}
		for i, token := range markup.All(b) {
			t.Error("All:", i, token)
		}
	}
	if _, ok := markup.Get(api.Token{}, "", ""); ok {
		t.Error("Get of nothing")
	}
}
