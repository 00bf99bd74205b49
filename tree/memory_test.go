package tree_test

import (
	"slices"
	"strings"
	"sync"
	"testing"
	"unsafe"

	"gridiron/api"
	"gridiron/tree"
)

// copyOf is a node that shares nothing with n.
func copyOf(n api.Node) api.Node {
	own := api.Node{Elem: n.Elem, Text: strings.Clone(n.Text), Name: copyOfName(n.Name)}
	for _, a := range n.Attrs {
		own.Attrs = append(own.Attrs, api.XAttr{Name: copyOfName(a.Name), Value: strings.Clone(a.Value)})
	}
	for _, k := range n.Kids {
		own.Kids = append(own.Kids, copyOf(k))
	}
	return own
}

func copyOfName(n api.XName) api.XName {
	return api.XName{Space: strings.Clone(n.Space), Local: strings.Clone(n.Local)}
}

// roomy is a copy of n with room behind the end of each list, which is filled.
func roomy(n api.Node) api.Node {
	attrs := append(slices.Clone(n.Attrs), attr("room", "room"), attr("room", "room"))
	kids := []api.Node{}
	for _, k := range n.Kids {
		kids = append(kids, roomy(k))
	}
	kids = append(kids, text("room"), element("room"))
	n.Attrs, n.Kids = attrs[:len(n.Attrs)], kids[:len(n.Kids)]
	return n
}

// whole is a copy of n in which what lies in the room behind its lists stands in them.
func whole(n api.Node) api.Node {
	own := n
	own.Attrs = slices.Clone(n.Attrs[:cap(n.Attrs)])
	own.Kids = nil
	for _, k := range n.Kids[:cap(n.Kids)] {
		own.Kids = append(own.Kids, whole(k))
	}
	return own
}

// spoil puts something else in all lists of a node, in the room behind them too.
func spoil(n api.Node) {
	for _, k := range n.Kids {
		spoil(k)
	}
	attrs, kids := n.Attrs[:cap(n.Attrs)], n.Kids[:cap(n.Kids)]
	for i := range attrs {
		attrs[i] = attr("spoilt spoilt", "spoilt")
	}
	for i := range kids {
		kids[i] = text("spoilt")
	}
}

// sample is a node with something of everything.
func sample() api.Node {
	return with(element("u a", text("t"), with(element("v b", element("u c", text("s")), with(element("d"), "x", "1")), "x", "1", "u y", "2"), with(element("v b"), "z", "3"), text("w")), "x", "1", "v y", "2", "z", "3")
}

// stretch is a piece of memory.
type stretch struct {
	from, to uintptr
}

// lists are the pieces of memory in which a node's lists lie, with the room behind them.
func lists(n api.Node) []stretch {
	var all []stretch
	if cap(n.Attrs) > 0 {
		from := uintptr(unsafe.Pointer(unsafe.SliceData(n.Attrs)))
		all = append(all, stretch{from, from + uintptr(cap(n.Attrs))*unsafe.Sizeof(api.XAttr{})})
	}
	if cap(n.Kids) > 0 {
		from := uintptr(unsafe.Pointer(unsafe.SliceData(n.Kids)))
		all = append(all, stretch{from, from + uintptr(cap(n.Kids))*unsafe.Sizeof(api.Node{})})
	}
	for _, k := range n.Kids {
		all = append(all, lists(k)...)
	}
	return all
}

// strs are the pieces of memory in which a node's texts lie.
func strs(n api.Node) []stretch {
	var all []stretch
	for _, v := range modelAll(n) {
		texts := []string{v.node.Text, v.node.Name.Space, v.node.Name.Local}
		for _, a := range v.node.Attrs {
			texts = append(texts, a.Name.Space, a.Name.Local, a.Value)
		}
		for _, s := range texts {
			all = append(all, strOf(s))
		}
	}
	return all
}

func strOf(s string) stretch {
	from := uintptr(unsafe.Pointer(unsafe.StringData(s)))
	return stretch{from, from + uintptr(len(s))}
}

// shared tells whether two of these pieces overlap; those of nothing do not.
func shared(all []stretch) bool {
	all = slices.DeleteFunc(slices.Clone(all), func(s stretch) bool { return s.from == s.to })
	slices.SortFunc(all, func(a, b stretch) int {
		if a.from < b.from {
			return -1
		}
		return 1
	})
	for i := 1; i < len(all); i++ {
		if all[i].from < all[i-1].to {
			return true
		}
	}
	return false
}

// R3: no call changes what it is given, nor what lies in the room behind it.
func TestGivenStays(t *testing.T) {
	n := roomy(sample())
	l := append(slices.Clone(prefixes), api.Prefix{Prefix: "room", Space: "room"})
	before, listed := whole(n), slices.Clone(l)
	tree.Write(n, l[:2])
	tree.Check(n)
	tree.Same(n, n)
	tree.Attr(n, "", "x")
	tree.Text(n)
	tree.Count(n)
	for _, k := range tree.Kids(n, "v", "b") {
		spoil(k)
	}
	for _, k := range tree.All(n) {
		spoil(k)
	}
	if !alike(whole(n), before) || !slices.Equal(l, listed) {
		t.Error("what was given has changed")
	}
	wrong := roomy(element("a", text(""), element("1")))
	before = whole(wrong)
	tree.Write(wrong, []api.Prefix{{}})
	tree.Check(wrong)
	if !alike(whole(wrong), before) {
		t.Error("what was given, and may not be, has changed")
	}
}

// R3: what an iterator tells is as it was when it was asked for, whatever is done to what was given and to what was told.
func TestToldStays(t *testing.T) {
	n := sample()
	wantKids, wantAll := []visited{{1, copyOf(n.Kids[1])}, {2, copyOf(n.Kids[2])}}, modelAll(copyOf(n))
	kids, all := tree.Kids(n, "v", "b"), tree.All(n)
	spoil(n)
	for name, c := range map[string]struct {
		seq  func(func(int, api.Node) bool)
		want []visited
	}{"Kids": {kids, wantKids}, "All": {all, wantAll}} {
		for pass := range 3 {
			count := 0
			var kept []api.Node
			for i, k := range c.seq {
				if count >= len(c.want) || !sameVisit(visited{i, k}, c.want[count]) {
					t.Fatalf("%s, pass %d: %d, %s", name, pass, i, shown(k))
				}
				kept = append(kept, copyOf(k))
				spoil(k)
				count++
			}
			if count != len(c.want) || !slices.EqualFunc(kept, c.want, func(k api.Node, v visited) bool { return alike(k, v.node) }) {
				t.Errorf("%s, pass %d: %d told", name, pass, count)
			}
		}
	}
}

// R3: of the deepest tree with the most nodes, too, what is done to a node is not seen in those that are told behind it.
func TestToldStaysOfMost(t *testing.T) {
	t.Parallel()
	n := wrapped(wide(api.MaxNodes-api.MaxElems+1), api.MaxElems-2)
	if tree.Check(n) != api.OK || tree.Count(n) != api.MaxNodes {
		t.Fatal("no such tree:", tree.Check(n), tree.Count(n))
	}
	count := 0
	for deep, k := range tree.All(n) {
		for i := range k.Kids[:min(2, len(k.Kids))] {
			kid := &k.Kids[i]
			if kid.Text != "" == kid.Elem || kid.Name.Local == "spoilt" || kid.Text == "spoilt" || deep < api.MaxElems-2 && !kid.Elem {
				t.Fatalf("deep %d: %v", deep, kid.Name)
			}
			kid.Name.Local, kid.Text = "spoilt", "spoilt"
		}
		count++
	}
	if count != api.MaxNodes {
		t.Error("told:", count)
	}
}

// R3: lists that are answered share no memory, with one another and with what was given, their spare room too.
func TestNothingShared(t *testing.T) {
	n := roomy(sample())
	all := lists(n)
	for range 2 {
		for _, v := range told(n) {
			all = append(all, lists(v.node)...)
		}
		for _, k := range kidsOf(n, "v", "b") {
			all = append(all, lists(k.node)...)
		}
	}
	s, _ := tree.Write(sample(), prefixes)
	for range 2 {
		parsed, _, errno := tree.Parse(s)
		if errno != api.OK {
			t.Fatal("Parse:", errno)
		}
		all = append(all, lists(parsed)...)
	}
	if shared(all) {
		t.Error("lists share memory")
	}
	if !shared(append(all, all[0])) {
		t.Error("the test sees nothing")
	}
}

// R3: texts that are answered are new memory.
func TestTextsAreNew(t *testing.T) {
	s := "<p:aa xmlns:p='uuu' p:xx='111'>ttt<bb/></p:aa>"
	n, _, _ := tree.Parse(s)
	whole := strOf(s)
	for _, piece := range strs(n) {
		if shared([]stretch{whole, piece}) {
			t.Error("Parse's texts share memory with the document")
		}
	}
	apart := func(name string, got []stretch) {
		t.Helper()
		for _, a := range strs(n) {
			for _, b := range got {
				if shared([]stretch{a, b}) {
					t.Errorf("%s: a text shares memory with what was given", name)
					return
				}
			}
		}
	}
	value, _ := tree.Attr(n, "uuu", "xx")
	apart("Attr", []stretch{strOf(value)})
	apart("Text of an element", []stretch{strOf(tree.Text(n))})
	apart("Text of a text", []stretch{strOf(tree.Text(n.Kids[0]))})
	for _, v := range told(n) {
		apart("All", strs(v.node))
	}
	for _, k := range kidsOf(element("r", n), "uuu", "aa") {
		apart("Kids", strs(k.node))
	}
	l := []api.Prefix{{Prefix: "pp", Space: "uuu"}}
	out, errno := tree.Write(n, l)
	if errno != api.OK {
		t.Fatal("Write:", errno)
	}
	apart("Write", []stretch{strOf(out)})
	only, _ := tree.Write(element("a"), nil)
	apart("Write", []stretch{strOf(only)})
}

// R4: calls know nothing of one another, at the same time too.
func TestAtTheSameTime(t *testing.T) {
	n := sample()
	want, errno := tree.Write(n, prefixes)
	if errno != api.OK {
		t.Fatal("Write:", errno)
	}
	all, kids := tree.All(n), tree.Kids(n, "v", "b")
	var group sync.WaitGroup
	for range 8 {
		group.Go(func() {
			for range 50 {
				s, _ := tree.Write(n, prefixes)
				back, _, errno := tree.Parse(s)
				if s != want || errno != api.OK || !tree.Same(back, n) || tree.Text(n) != "tsw" || tree.Count(n) != 8 {
					t.Error("at the same time:", s, errno)
				}
				count := 0
				for _, k := range all {
					spoil(k)
					count++
				}
				for _, k := range kids {
					spoil(k)
					count++
				}
				if count != 10 {
					t.Error("at the same time:", count)
				}
			}
		})
	}
	group.Wait()
}
