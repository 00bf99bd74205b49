package tree

import (
	"gridiron/api"
	"gridiron/chars"
)

// Check tells whether a tree may be.
func Check(n api.Node) api.Errno {
	if !n.Elem {
		return api.ErrNode
	}
	c := checker{spaces: map[string]struct{}{}}
	nodes, tooDeep := 0, false
	for deep, node := range within(&n) {
		if !c.mayBe(node) {
			return api.ErrNode
		}
		nodes++
		tooDeep = tooDeep || node.Elem && deep >= api.MaxElems
	}
	switch {
	case tooDeep:
		return api.ErrDeep
	case nodes > api.MaxNodes:
		return api.ErrNodes
	}
	return api.OK
}

// checker tells whether nodes may be.
type checker struct {
	spaces map[string]struct{} // those that have been found to be ones that may be: they come again and again
}

// mayBe tells whether a node may be, whatever its Kids are.
func (c *checker) mayBe(n *api.Node) bool {
	if n.Elem {
		return n.Text == "" && c.mayName(n.Name) && c.mayHave(n.Attrs) && parted(n.Kids)
	}
	return n.Text != "" && valid(n.Text) && n.Name == (api.XName{}) && len(n.Attrs) == 0 && len(n.Kids) == 0
}

func (c *checker) mayName(name api.XName) bool {
	return chars.Name(name.Local) && c.maySpace(name.Space)
}

func (c *checker) maySpace(space string) bool {
	if _, known := c.spaces[space]; known {
		return true
	}
	if space == spaceOfXmlns || !valid(space) {
		return false
	}
	c.spaces[space] = struct{}{}
	return true
}

// mayHave tells whether an element may have these attributes.
func (c *checker) mayHave(attrs []api.XAttr) bool {
	seen := make(map[api.XName]struct{}, len(attrs))
	for _, a := range attrs {
		// a text would say that it declares a space
		declares := a.Name == api.XName{Local: "xmlns"}
		if declares || !c.mayName(a.Name) || !valid(a.Value) {
			return false
		}
		seen[a.Name] = struct{}{}
	}
	return len(seen) == len(attrs)
}

// parted tells whether no text stands beside another one.
func parted(kids []api.Node) bool {
	for i := 1; i < len(kids); i++ {
		if !kids[i-1].Elem && !kids[i].Elem {
			return false
		}
	}
	return true
}

func valid(text string) bool {
	_, ok := chars.Valid(text)
	return ok
}
