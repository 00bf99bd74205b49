package tree_test

import (
	"slices"
	"strings"
	"testing"

	"gridiron/api"
	"gridiron/tree"
)

// P7.3: nodes that differ in one field alone, deep within too; nil and empty lists are the same.
func TestSame(t *testing.T) {
	base := with(element("u a", text("t"), with(element("b"), "x", "1")), "x", "1", "v y", "2")
	others := []api.Node{
		{}, text("t"), element("u a"),
		with(element("a", base.Kids...), "x", "1", "v y", "2"), with(element("v a", base.Kids...), "x", "1", "v y", "2"), with(element("u b", base.Kids...), "x", "1", "v y", "2"),
		with(element("u a", base.Kids...), "v y", "2", "x", "1"), with(element("u a", base.Kids...), "x", "1"), with(element("u a", base.Kids...), "x", "1", "v y", "2", "z", "3"), with(element("u a", base.Kids...), "x", "2", "v y", "2"), with(element("u a", base.Kids...), "z", "1", "v y", "2"), with(element("u a", base.Kids...), "u x", "1", "v y", "2"), with(element("u a", base.Kids...), "x", "1", "x", "1"),
		with(element("u a", base.Kids[1], base.Kids[0]), "x", "1", "v y", "2"), with(element("u a", base.Kids[0]), "x", "1", "v y", "2"), with(element("u a", text("t"), base.Kids[1], text("t")), "x", "1", "v y", "2"), with(element("u a", text("u"), base.Kids[1]), "x", "1", "v y", "2"), with(element("u a", text("t"), element("b")), "x", "1", "v y", "2"), with(element("u a", text("t"), with(element("b"), "x", "2")), "x", "1", "v y", "2"), with(element("u a", text("t"), with(element("b", text("")), "x", "1")), "x", "1", "v y", "2"), with(element("u a", element("t"), base.Kids[1]), "x", "1", "v y", "2"),
		{Elem: true, Text: "x", Name: base.Name, Attrs: base.Attrs, Kids: base.Kids}, {Elem: false, Name: base.Name, Attrs: base.Attrs, Kids: base.Kids},
	}
	for i, n := range append(others, base) {
		if same := tree.Same(base, n); same != (i == len(others)) || tree.Same(n, base) != same {
			t.Errorf("Same of %s: %v", shown(n), same)
		}
		if tree.Same(wrapped(base, 3), wrapped(n, 3)) != (i == len(others)) {
			t.Errorf("Same of %s within others", shown(n))
		}
		if !tree.Same(n, n) || !tree.Same(n, copyOf(n)) {
			t.Errorf("Same of %s and itself", shown(n))
		}
	}
	empty := api.Node{Elem: true, Name: named("a"), Attrs: []api.XAttr{}, Kids: []api.Node{}}
	room := api.Node{Elem: true, Name: named("a"), Attrs: make([]api.XAttr, 1)[:0], Kids: make([]api.Node, 3)[:0]}
	for _, n := range []api.Node{empty, room, element("a")} {
		if !tree.Same(n, element("a")) || !tree.Same(element("a"), n) || !tree.Same(element("b", n), element("b", empty)) {
			t.Error("Same of nil and empty lists")
		}
	}
	if !tree.Same(api.Node{}, api.Node{}) || tree.Same(wrapped(text("a"), 5), wrapped(text("a"), 6)) {
		t.Error("Same")
	}
}

// P7.3: the first attribute of a name; of a name that there is not, nothing.
func TestAttr(t *testing.T) {
	n := with(element("a", with(element("b"), "inner", "1")), "x", "1", "u x", "2", "x", "3", "u y", "", "", "none", "v ", "4", "\xff \x00", "5")
	for _, c := range []struct {
		space, local, value string
		is                  bool
	}{
		{"", "x", "1", true}, {"u", "x", "2", true}, {"u", "y", "", true}, {"", "", "none", true}, {"v", "", "4", true}, {"\xff", "\x00", "5", true},
		{"", "y", "", false}, {"v", "x", "", false}, {"", "inner", "", false}, {"", "X", "", false}, {"U", "x", "", false}, {"x", "", "", false}, {"", "u x", "", false}, {"", "a", "", false}, {"u", "", "", false},
	} {
		if value, is := tree.Attr(n, c.space, c.local); value != c.value || is != c.is {
			t.Errorf("Attr(%q, %q): %q, %v", c.space, c.local, value, is)
		}
	}
	for _, n := range []api.Node{{}, element("a"), text("x"), element("a", with(element("b"), "x", "1"))} {
		if value, is := tree.Attr(n, "", "x"); value != "" || is {
			t.Errorf("Attr of %s: %q, %v", shown(n), value, is)
		}
	}
	odd := api.Node{Text: "t", Attrs: []api.XAttr{attr("x", "1")}}
	if value, is := tree.Attr(odd, "", "x"); value != "1" || !is {
		t.Errorf("Attr of a text that may not be: %q, %v", value, is)
	}
}

// P7.3: the text of a text, and all texts within an element, at many depths.
func TestText(t *testing.T) {
	for _, c := range []struct {
		n    api.Node
		want string
	}{
		{api.Node{}, ""}, {text("a"), "a"}, {text("\xff\x00"), "\xff\x00"}, {element("a"), ""}, {element("a", text("b")), "b"}, {element("a", text("b"), element("c"), text("d")), "bd"}, {element("a", text("b"), element("c", text("d"), element("e", text("f")), text("g")), element("h", element("i", element("j", text("k"))), text("l")), text("m")), "bdfgklm"},
		{with(element("a", element("b")), "x", "y"), ""}, {element("a", text("b"), text("b"), text(""), text("c")), "bbc"}, {wrapped(text("t"), 1<<16-1), "t"},
		// nodes that may not be: an element's own text is none, and a text's is it alone
		{api.Node{Elem: true, Text: "own", Kids: []api.Node{text("a")}}, "a"}, {element("a", api.Node{Elem: true, Text: "own", Kids: []api.Node{text("b")}}), "b"}, {api.Node{Text: "own", Kids: []api.Node{text("a")}}, "own"}, {api.Node{Kids: []api.Node{text("a")}}, ""}, {element("a", api.Node{Text: "b", Kids: []api.Node{text("c"), element("d", text("e"))}}, text("f")), "bcef"},
	} {
		if said := tree.Text(c.n); said != c.want {
			t.Errorf("Text(%s): %q, want %q", shown(c.n), said, c.want)
		}
	}
}

// kid is what Kids tells.
type kid struct {
	place int
	node  api.Node
}

// kidsOf are all that Kids tells.
func kidsOf(n api.Node, space, local string) []kid {
	var all []kid
	for i, k := range tree.Kids(n, space, local) {
		all = append(all, kid{i, k})
	}
	return all
}

// P7.3: kids that are elements of a name, with their places among all; not what lies deeper, and no texts.
func TestKids(t *testing.T) {
	n := element("a", text("b"), element("b", element("b", text("deep"))), element("u b"), element("c"), api.Node{Name: named("b"), Text: "no element"}, with(element("b"), "x", "1"), element("u c"), element(""), api.Node{}, api.Node{Elem: true, Name: named("b"), Text: "odd"})
	for _, c := range []struct {
		space, local string
		places       []int
	}{
		{"", "b", []int{1, 5, 9}}, {"u", "b", []int{2}}, {"", "c", []int{3}}, {"u", "c", []int{6}}, {"", "", []int{7}}, {"", "a", nil}, {"", "d", nil}, {"v", "b", nil}, {"b", "", nil}, {"", "B", nil},
	} {
		got := kidsOf(n, c.space, c.local)
		if len(got) != len(c.places) {
			t.Errorf("Kids(%q, %q): %d", c.space, c.local, len(got))
			continue
		}
		for i, k := range got {
			if k.place != c.places[i] || !alike(k.node, n.Kids[c.places[i]]) {
				t.Errorf("Kids(%q, %q): %d, %s", c.space, c.local, k.place, shown(k.node))
			}
		}
	}
	for _, n := range []api.Node{{}, text("b"), element("b"), element("a", text("b")), element("a", element("c", element("b")))} {
		if got := kidsOf(n, "", "b"); len(got) != 0 {
			t.Errorf("Kids of %s: %d", shown(n), len(got))
		}
	}
	odd := api.Node{Text: "t", Kids: []api.Node{element("b")}}
	if got := kidsOf(odd, "", "b"); len(got) != 1 || got[0].place != 0 || !alike(got[0].node, element("b")) {
		t.Error("Kids of a text that may not be:", got)
	}
}

// told are all nodes that All tells.
func told(n api.Node) []visited {
	var all []visited
	for deep, node := range tree.All(n) {
		all = append(all, visited{deep, node})
	}
	return all
}

func sameVisit(a, b visited) bool {
	return a.deep == b.deep && alike(a.node, b.node)
}

// P7.3: All tells a node ahead of its kids, with its depth; Count how many.
func TestAll(t *testing.T) {
	n := with(element("a", text("b"), element("c", element("d", text("e")), text("f")), element("g"), text("h")), "x", "1")
	c := n.Kids[1]
	want := []visited{{0, n}, {1, text("b")}, {1, c}, {2, element("d", text("e"))}, {3, text("e")}, {2, text("f")}, {1, element("g")}, {1, text("h")}}
	if got := told(n); !slices.EqualFunc(got, want, sameVisit) || tree.Count(n) != 8 {
		t.Error("All:", got, tree.Count(n))
	}
	// nodes with nothing in them, and that may not be
	for _, n := range []api.Node{{}, text("a"), element("a"), {Text: "a", Kids: []api.Node{{Text: "b", Kids: []api.Node{{}, {}}}, element("")}}, {Elem: true, Kids: []api.Node{{}, {}, {Kids: []api.Node{{}}}}}} {
		if got := told(n); !slices.EqualFunc(got, modelAll(n), sameVisit) || tree.Count(n) != len(got) {
			t.Errorf("All of %s: %v, %d", shown(n), got, tree.Count(n))
		}
	}
	if n, _, _ := tree.Parse("<a x='1'>b<!-- c -->d</a>"); tree.Count(n) != 2 {
		t.Error("Count of the chapter's example:", tree.Count(n))
	}
}

// P7.3, R3: All and Kids that are left at each of their nodes tell no more, and are gone over from the beginning again.
func TestLeft(t *testing.T) {
	n := element("a", element("b", element("b"), text("t")), text("u"), with(element("b"), "x", "1"), element("b", element("c", element("b"))))
	for name, c := range map[string]struct {
		seq  func(func(int, api.Node) bool)
		want []visited
	}{
		"All":  {tree.All(n), modelAll(n)},
		"Kids": {tree.Kids(n, "", "b"), []visited{{0, n.Kids[0]}, {2, n.Kids[2]}, {3, n.Kids[3]}}},
	} {
		for stop := range c.want {
			count := 0
			c.seq(func(i int, node api.Node) bool {
				if count > stop || !sameVisit(visited{i, node}, c.want[count]) {
					t.Errorf("%s left at %d: %d, %s", name, stop, i, shown(node))
				}
				count++
				return count <= stop
			})
			if count != stop+1 {
				t.Errorf("%s left at %d: %d told", name, stop, count)
			}
		}
		for range 2 {
			count := 0
			for i, node := range c.seq {
				if !sameVisit(visited{i, node}, c.want[count]) {
					t.Errorf("%s again: %d, %s", name, i, shown(node))
				}
				count++
			}
			if count != len(c.want) {
				t.Errorf("%s again: %d told", name, count)
			}
		}
		outer := 0
		for range c.seq {
			inner := 0
			for i, node := range c.seq {
				if !sameVisit(visited{i, node}, c.want[inner]) {
					t.Errorf("%s nested: %d, %s", name, i, shown(node))
				}
				inner++
			}
			if inner != len(c.want) {
				t.Errorf("%s nested: %d told", name, inner)
			}
			outer++
		}
		if outer != len(c.want) {
			t.Errorf("%s nested: %d told outside", name, outer)
		}
	}
}

// P7.3: a panic of the loop that goes through nodes goes on.
func TestThrown(t *testing.T) {
	n := element("a", element("b"))
	for name, seq := range map[string]func(func(int, api.Node) bool){"All": tree.All(n), "Kids": tree.Kids(n, "", "b")} {
		func() {
			defer func() {
				if thrown := recover(); thrown != "mine" {
					t.Error(name, "thrown:", thrown)
				}
			}()
			for range seq {
				panic("mine")
			}
		}()
	}
}

// R1, THE BOUND: 2^16 nodes within one another.
func TestNested(t *testing.T) {
	t.Parallel()
	const deep = 1 << 16
	n := wrapped(text("t"), deep-1)
	if tree.Count(n) != deep || tree.Text(n) != "t" || !tree.Same(n, wrapped(text("t"), deep-1)) || tree.Same(n, wrapped(text("u"), deep-1)) || tree.Check(n) != api.ErrDeep {
		t.Error("Count, Text, Same, Check")
	}
	if s, errno := tree.Write(n, nil); s != "" || errno != api.ErrDeep {
		t.Error("Write:", errno)
	}
	count := 0
	for i, k := range tree.Kids(n, "", "w") {
		if i != 0 || tree.Count(k) != deep-1 {
			t.Error("Kids:", i)
		}
		count++
	}
	for range 2 {
		i := 0
		for d, k := range tree.All(n) {
			if d != i || k.Elem != (i < deep-1) || i%4096 == 0 && tree.Count(k) != deep-i {
				t.Fatal("All:", d, i)
			}
			// nothing that the loop does to what it is told changes what is told next
			k.Kids = nil
			i++
		}
		if i != deep || count != 1 {
			t.Error("All, Kids:", i, count)
		}
	}
	for d, k := range tree.All(n) {
		if d == 1000 {
			if k.Name.Local != "w" {
				t.Error("All that is left:", k.Name)
			}
			break
		}
		if d > 1000 {
			t.Error("All that is left goes on")
		}
	}
}

// R1: a tree with a long space in many names is read, told and written in the end.
func TestHard(t *testing.T) {
	t.Parallel()
	long := strings.Repeat("u", 1<<20)
	doc := "<p:a xmlns:p='" + long + "'>" + strings.Repeat("<p:b p:x=''/>", 1<<11) + "</p:a>"
	n, at, errno := tree.Parse(doc)
	if errno != api.OK || at != 0 || tree.Count(n) != 1<<11+1 || tree.Check(n) != api.OK {
		t.Fatal("Parse:", at, errno)
	}
	s, errno := tree.Write(n, []api.Prefix{{Prefix: "p", Space: long}})
	if want := head + strings.ReplaceAll(doc, "'", "\""); errno != api.OK || s != want {
		t.Error("Write:", len(s), errno)
	}
	if s, errno := tree.Write(n, prefixes); s != "" || errno != api.ErrSpace {
		t.Error("Write without its prefix:", errno)
	}
	count := 0
	for range tree.All(n) {
		count++
	}
	for range tree.Kids(n, long, "b") {
		count++
	}
	if count != 1<<12+1 {
		t.Error("All and Kids:", count)
	}
}
