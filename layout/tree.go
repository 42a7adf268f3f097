package layout

import (
	"parterre/api"
	"parterre/document"
	"parterre/leaf"
	"parterre/style"
)

// Tree is a tree, and what is known of its nodes.
type Tree struct {
	nodes  []api.Node
	known  map[question]answer
	worked int
}

// Plant tells the tree of some nodes.
func Plant(l []api.Node) (*Tree, api.Errno) {
	if !document.Good(l) {
		return nil, api.ErrArg
	}
	return &Tree{nodes: copied(l), known: map[question]answer{}}, api.OK
}

// isPlanted tells whether a call made the tree.
func (t *Tree) isPlanted() bool { return t != nil && len(t.nodes) > 0 }

// Nodes tells its nodes.
func (t *Tree) Nodes() []api.Node {
	if !t.isPlanted() {
		return nil
	}
	return copied(t.nodes)
}

// Worked tells how many containers have been worked out, again and again.
func (t *Tree) Worked() int {
	if !t.isPlanted() {
		return 0
	}
	return t.worked
}

// Set gives a node another style.
func (t *Tree) Set(i int, s api.Style) api.Errno {
	if e := t.asks(i); e != api.OK {
		return e
	}
	if !style.Good(s) || t.isGrid(i) && len(s.Content) > 0 {
		return api.ErrArg
	}
	t.nodes[i].Style = copiedStyle(s)
	t.forget(i)
	return api.OK
}

// Widths tells a node's least and greatest width.
func (t *Tree) Widths(i int) (api.Content, int, api.Errno) {
	if e := t.asks(i); e != api.OK {
		return api.Content{}, 0, e
	}
	told, left := attempt(func() api.Content { return t.widths(i) })
	return told, left.node, left.e
}

// Height tells a node's height, of a width.
func (t *Tree) Height(i, width int) (int, int, api.Errno) {
	if e := t.asks(i, width); e != api.OK {
		return 0, 0, e
	}
	told, left := attempt(func() int { return t.height(i, width) })
	return told, left.node, left.e
}

// Stand lays a container out, and tells where its children stand.
func (t *Tree) Stand(i, width, height int) (api.Laid, []api.Rect, int, api.Errno) {
	if e := t.asks(i, width, height); e != api.OK {
		return api.Laid{}, nil, 0, e
	}
	if !t.isGrid(i) {
		return api.Laid{}, nil, 0, api.ErrArg
	}
	told, left := attempt(func() working {
		t.widths(i)
		return *t.stand(i, width, height)
	})
	return told.laid, told.rects, left.node, left.e
}

// asks tells what is wrong with asking a tree about a node, of some sizes.
func (t *Tree) asks(i int, sizes ...int) api.Errno {
	if !t.isPlanted() {
		return api.ErrNil
	}
	if !isPlace(t.nodes, i) {
		return api.ErrArg
	}
	for _, n := range sizes {
		if !isSize(n) {
			return api.ErrArg
		}
	}
	return api.OK
}

func (t *Tree) isGrid(i int) bool { return t.nodes[i].Kind == api.NodeGrid }

// widths tells a node's least and greatest width, or leaves by a fault.
func (t *Tree) widths(i int) api.Content {
	if t.isGrid(i) {
		return t.told(question{node: i}, func() api.Content { return t.begin(i).findWidths() })
	}
	words := t.nodes[i].Style.Content
	least, e := leaf.Min(words)
	check(i, e)
	greatest, _ := leaf.Max(words) // it has no errors but those of Min
	return api.Content{Min: least, Max: greatest}
}

// height tells a node's height, of a width, or leaves by a fault.
func (t *Tree) height(i, width int) int {
	if t.isGrid(i) {
		// A height is kept as the least and the greatest one of what stands there.
		return t.told(question{node: i, wide: true, width: width}, func() api.Content {
			n := t.begin(i).findHeight(width)
			return api.Content{Min: n, Max: n}
		}).Min
	}
	n, e := leaf.Height(t.nodes[i].Style.Content, width)
	check(i, e)
	return n
}

// stand lays a container out, or leaves by a fault.
func (t *Tree) stand(i, width, height int) *working {
	w := t.begin(i)
	w.stand(width, height)
	return w
}
