package markup_test

import (
	"slices"
	"testing"

	"gridiron/api"
	"gridiron/markup"
)

// P6.3: of a document that is wrong the tokens whose last byte stands ahead of what is wrong; a text is at its end when </ or < and a name's beginning stands behind it.
func TestAllWrong(t *testing.T) {
	for doc, n := range map[string]int{
		"": 0, "\ufeff": 0, " ": 0, "x": 0, "<": 0, "<a": 0, "<a/": 0, "<a ": 0, "<a>": 1, "<a/>": 2, "<a/>x": 2, "<a/><": 2, "<a/><b/>": 2, "<a/>\xff": 2, "<a/><!DOCTYPE": 2, "<a/><?xml?>": 2,
		"<a>b": 1, "<a>b<": 1, "<a>b</": 2, "<a>b<c": 2, "<a>b<1": 1, "<a>b<:": 1, "<a>b< ": 1, "<a>b<!": 1, "<a>b<!DOCTYPE": 1, "<a>b<!-- -->": 1, "<a>b<!-- --><": 1, "<a>b<!-- --></": 2, "<a>b<?p?>": 1, "<a>b<?xml?>": 1, "<a>b&": 1, "<a>b&x;": 1, "<a>b&x;</a>": 1, "<a>b]]>": 1, "<a>b]]></a>": 1, "<a>b<![CDATA[c]]>": 1, "<a>b<![CDATA[c</a>": 1, "<a>b<![CDATA[c]]></": 2, "<a>b\xff": 1, "<a>b<\xff": 1, "<a>b</\xff": 2, "<a>b<c\xff": 2, "<a>b<é": 2, "<a>b<\xc3": 1,
		"<a>b</1": 2, "<a>b</c>": 2, "<a>b</a": 2, "<a>b</a ": 2, "<a>b</a>": 3, "<a>b</a x": 2, "<a>b</a>c": 3, "<a>b<c x='": 2, "<a>b<c x='&y;'/>": 2, "<a>b<p:c/>": 2, "<a>b<c x='' x=''/>": 2, "<a>b<c xmlns:p=''/>": 2, "<a>b<c p:x=''/>": 2, "<a>b<c/": 2, "<a>b<c/ >": 2, "<a>b<c/>": 4, "<a>b<c/>d</": 5, "<a>b<c/></b>": 4, "<a>b<c></a>": 3,
		"<p:a>b</p:a>": 0, "<a x='' x=''>b</a>": 0, "<a x='<'>b</a>": 0, "<?xml version='1.0' encoding='x'?><a>b</a>": 0, "<!DOCTYPE a><a>b</a>": 0, "<a><![CDATA[]]></": 1, "<a><![CDATA[]]>&#98;</": 2, "<a></b": 1, "<a></b>": 1, "<a><b></a>": 2, "\x00<a/>": 0, "</a>": 0,
	} {
		want := []api.Token{}
		if told := told(t, doc); len(told) != n {
			t.Errorf("All(%q): %v, want %d", doc, told, n)
		} else {
			want = told
		}
		// what stands behind what is wrong changes nothing that was told
		for i, token := range want {
			if whole := told(t, doc+"</a></a></a>"); len(whole) < n || !alike(whole[i], token) {
				t.Errorf("All(%q): %v at %d", doc, whole, i)
			}
		}
	}
}

// P6.3: the tokens of a document in which something is put that is wrong, at each place, are those of the whole one up to there.
func TestAllWrongEverywhere(t *testing.T) {
	const doc = "\ufeff<?xml version='1.0'?><!--c--><a xmlns:p='u' x='1'>b&lt;c<!--d--><p:e/>f<![CDATA[g]]></a ><?h i?> "
	whole, _, _ := markup.Tokens([]byte(doc))
	for n := range len(doc) + 1 {
		for _, wrong := range []string{"\x00", "\xff", "<<", "&&", "<!DOCTYPE"} {
			spoilt := doc[:n] + wrong + doc[n:]
			got := told(t, spoilt)
			if len(got) > len(whole) || !slices.EqualFunc(got, whole[:len(got)], alike) && wrong[0] < ' ' {
				t.Errorf("All(%q): %v", spoilt, got)
			}
			check(t, spoilt)
		}
	}
}

const iterated = "<a xmlns='u' x='1' y='2'>b<c z='3'/>d<!-- -->e<c/></a>"

// P6.3, R3: All that is left at each of its tokens tells no more, and is gone over from the beginning again.
func TestAllLeft(t *testing.T) {
	for _, doc := range []string{iterated, iterated + "<", iterated[:40], iterated + "\xff"} {
		want := told(t, doc)
		seq := markup.All([]byte(doc))
		for stop := range want {
			n := 0
			seq(func(i int, token api.Token) bool {
				if i != n || n > stop || !alike(token, want[i]) {
					t.Errorf("left at %d: %v as number %d", stop, token, i)
				}
				n++
				return n <= stop
			})
			if n != stop+1 {
				t.Errorf("left at %d: %d tokens", stop, n)
			}
		}
		for range 2 {
			n := 0
			for i, token := range seq {
				if i != n || !alike(token, want[i]) {
					t.Errorf("again: %v as number %d", token, i)
				}
				n++
			}
			if n != len(want) {
				t.Errorf("again: %d tokens, want %d", n, len(want))
			}
		}
	}
}

// R3: All may be nested in itself.
func TestAllNested(t *testing.T) {
	want := told(t, iterated)
	seq := markup.All([]byte(iterated))
	outer := 0
	for range seq {
		inner := 0
		for i, token := range seq {
			if !alike(token, want[i]) {
				t.Errorf("nested: %v as number %d", token, i)
			}
			inner++
		}
		if inner != len(want) {
			t.Errorf("nested: %d tokens", inner)
		}
		outer++
	}
	if outer != len(want) {
		t.Errorf("nested: %d tokens outside", outer)
	}
}

// P6.3: a panic of the loop that goes through the tokens is not taken for something that is wrong with the document.
func TestAllThrown(t *testing.T) {
	defer func() {
		if thrown := recover(); thrown != "mine" {
			t.Error("thrown:", thrown)
		}
	}()
	for range markup.All([]byte(iterated)) {
		panic("mine")
	}
	t.Error("nothing was thrown")
}

// P6.3: an attribute by its name, the first one of that name, and names that there are not.
func TestGet(t *testing.T) {
	token := start(0, "s", "a", attr("", "x", "1"), attr("u", "x", "2"), attr("", "y", ""), attr("u", "x", "3"), attr("", "x", "4"))
	for _, c := range []struct {
		space, local, want string
		ok                 bool
	}{
		{"", "x", "1", true}, {"u", "x", "2", true}, {"", "y", "", true}, {"u", "y", "", false}, {"v", "x", "", false}, {"", "z", "", false}, {"", "", "", false}, {"s", "a", "", false}, {"", "X", "", false}, {"x", "", "", false}, {"", "1", "", false}, {"\xff", "\x00", "", false},
	} {
		if got, ok := markup.Get(token, c.space, c.local); got != c.want || ok != c.ok {
			t.Errorf("Get(%q, %q): %q, %v", c.space, c.local, got, ok)
		}
	}
	for _, none := range []api.Token{{}, end(0, "", "x"), text(0, "x"), start(0, "", "x")} {
		if got, ok := markup.Get(none, "", "x"); got != "" || ok {
			t.Errorf("Get of %v: %q, %v", none, got, ok)
		}
	}
	if got, ok := markup.Get(api.Token{Kind: 9, Attrs: []api.Attr{attr("", "", "v")}}, "", ""); got != "v" || !ok {
		t.Errorf("Get of no name: %q, %v", got, ok)
	}
}

// P6.3: tokens that are the same but for places and the order of attributes, and each thing by which they are not.
func TestSame(t *testing.T) {
	x, y := attr("u", "x", "1"), attr("", "y", "2")
	base := []api.Token{start(0, "s", "a", x, y), text(9, "t"), end(12, "s", "a")}
	for i, c := range []struct {
		other []api.Token
		same  bool
	}{
		{[]api.Token{start(0, "s", "a", x, y), text(9, "t"), end(12, "s", "a")}, true},
		{[]api.Token{start(5, "s", "a", y, x), text(-1, "t"), end(0, "s", "a")}, true},
		{[]api.Token{start(0, "", "a", x, y), text(9, "t"), end(12, "s", "a")}, false},
		{[]api.Token{start(0, "s", "b", x, y), text(9, "t"), end(12, "s", "a")}, false},
		{[]api.Token{start(0, "s", "a", x), text(9, "t"), end(12, "s", "a")}, false},
		{[]api.Token{start(0, "s", "a", x, x), text(9, "t"), end(12, "s", "a")}, false},
		{[]api.Token{start(0, "s", "a", y, y), text(9, "t"), end(12, "s", "a")}, false},
		{[]api.Token{start(0, "s", "a", x, y, y), text(9, "t"), end(12, "s", "a")}, false},
		{[]api.Token{start(0, "s", "a", x, attr("u", "y", "2")), text(9, "t"), end(12, "s", "a")}, false},
		{[]api.Token{start(0, "s", "a", x, attr("", "z", "2")), text(9, "t"), end(12, "s", "a")}, false},
		{[]api.Token{start(0, "s", "a", x, attr("", "y", "3")), text(9, "t"), end(12, "s", "a")}, false},
		{[]api.Token{start(0, "s", "a"), text(9, "t"), end(12, "s", "a")}, false},
		{[]api.Token{start(0, "s", "a", x, y), text(9, "u"), end(12, "s", "a")}, false},
		{[]api.Token{start(0, "s", "a", x, y), text(9, ""), end(12, "s", "a")}, false},
		{[]api.Token{start(0, "s", "a", x, y), text(9, "t"), end(12, "s", "b")}, false},
		{[]api.Token{start(0, "s", "a", x, y), text(9, "t"), end(12, "", "a")}, false},
		{[]api.Token{start(0, "s", "a", x, y), text(9, "t"), start(12, "s", "a")}, false},
		{[]api.Token{start(0, "s", "a", x, y), text(9, "t")}, false},
		{[]api.Token{start(0, "s", "a", x, y), text(9, "t"), end(12, "s", "a"), end(12, "s", "a")}, false},
		{[]api.Token{text(9, "t"), start(0, "s", "a", x, y), end(12, "s", "a")}, false},
		{nil, false},
	} {
		if markup.Same(base, c.other) != c.same || markup.Same(c.other, base) != c.same {
			t.Errorf("Same, number %d: %v", i, !c.same)
		}
		if !markup.Same(c.other, c.other) {
			t.Errorf("Same with itself, number %d", i)
		}
	}
	if !markup.Same(nil, []api.Token{}) || !markup.Same([]api.Token{{Attrs: []api.Attr{}}}, []api.Token{{}}) {
		t.Error("Same of nothing")
	}
}

// P6.3: attributes that stand as often, in any order, are the same; the same ones in other numbers are not.
func TestSameOrders(t *testing.T) {
	parts := []api.Attr{attr("", "x", "1"), attr("", "x", "2"), attr("u", "x", "1")}
	var lists [][]api.Attr
	var grow func(l []api.Attr, left int)
	grow = func(l []api.Attr, left int) {
		lists = append(lists, l)
		for _, p := range parts[:min(left, 1)*3] {
			grow(append(slices.Clone(l), p), left-1)
		}
	}
	grow(nil, 4)
	key := func(l []api.Attr) (k [3]int) {
		for _, a := range l {
			k[slices.Index(parts, a)]++
		}
		return k
	}
	for _, a := range lists {
		for _, b := range lists {
			if got := markup.Same([]api.Token{{Attrs: a}}, []api.Token{{Attrs: b}}); got != (key(a) == key(b)) {
				t.Errorf("Same of %v and %v: %v", a, b, got)
			}
		}
	}
}
