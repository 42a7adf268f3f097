package layout_test

import (
	"math/rand/v2"
	"reflect"
	"slices"
	"strings"
	"testing"

	"parterre/api"
	"parterre/arena"
	"parterre/document"
	"parterre/layout"
)

// chance yields so many documents, of which some have numbers as great as they may be.
func chance(t *testing.T, seed uint64, count int, hold func(d dice, l []api.Node)) {
	t.Helper()
	d := dice{Rand: rand.New(rand.NewPCG(31, seed))}
	for i := range count {
		d.wild = i%5 == 0
		text := d.document()
		hold(d, nodes(t, text))
		if t.Failed() {
			t.Fatal(text)
		}
	}
}

// size is the size of a tree, definite or not.
type size struct {
	width  int
	wide   bool
	height int
	high   bool
}

func (d dice) space() size { return size{d.size(), d.IntN(3) > 0, d.size(), d.IntN(3) > 0} }

func (s size) layout(l []api.Node) ([]api.Rect, []api.Laid, int, api.Errno) {
	return layout.Layout(l, s.width, s.wide, s.height, s.high)
}

func TestByChance(t *testing.T) { // P31.2 to P31.4: as the walk tells
	ends := map[api.Errno]int{}
	chance(t, 1, 2000, func(d dice, l []api.Node) {
		w := newWalk(l)
		i, width := d.IntN(len(l)), d.size()
		holdContent(t, l, w, i, width)
		s := d.space()
		var r []api.Rect
		var g []api.Laid
		f := caught(func() { r, g = newWalk(l).layout(s) })
		rects, grids, at, e := s.layout(l)
		ends[e]++
		if at != f.node || e != f.e || !sameRects(rects, r) || !sameGrids(grids, g) {
			t.Error(s, at, int(e), f, "\n", text(rects), "\n", text(r))
		}
		if e != api.OK && (len(rects) > 0 || len(grids) > 0) {
			t.Error(rects, grids)
		}
	})
	for _, e := range []api.Errno{api.OK, api.ErrOver, api.ErrLimit, api.ErrFull} {
		if ends[e] == 0 {
			t.Error("none ends so:", int(e))
		}
	}
	if ends[api.OK] < 1500 {
		t.Error(ends[api.OK])
	}
}

// holdContent holds a node's widths and its height against what the walk tells.
func holdContent(t *testing.T, l []api.Node, w *walk, i, width int) {
	t.Helper()
	var c api.Content
	f := caught(func() { c = w.widths(i) })
	if x, at, e := layout.Widths(l, i); x != c || at != f.node || e != f.e {
		t.Error("widths of", i, x, at, int(e), c, f)
	}
	h := 0
	f = caught(func() { h = w.height(i, width) })
	if n, at, e := layout.Height(l, i, width); n != h || at != f.node || e != f.e {
		t.Error("height of", i, width, n, at, int(e), h, f)
	}
}

func TestTreeByChance(t *testing.T) { // P31.5, P31.6: whatever is set, as the walk tells, and worked out as often
	stands := 0
	chance(t, 2, 1200, func(d dice, l []api.Node) {
		w := newWalk(l)
		x, e := layout.Plant(l)
		if e != api.OK {
			t.Fatal(int(e))
		}
		for range 12 {
			d.ask(t, x, w, &stands)
			if x.Worked() != w.worked {
				t.Error("worked", x.Worked(), w.worked)
			}
			if t.Failed() {
				t.Fatal(document.Print(w.l))
			}
		}
		if !document.Same(x.Nodes(), w.l) {
			t.Error(document.Print(x.Nodes()))
		}
		s := d.space()
		r, g, at, e := s.layout(x.Nodes())
		if e == api.OK {
			holdStands(t, x, r, g)
			return
		}
		if s.wide && s.high && l[0].Kind == api.NodeGrid { // then it is an error of one of the containers as they stand
			holdFault(t, x, s, at, e)
		}
	})
	if stands < 1000 {
		t.Error(stands)
	}
}

// ask asks a tree something, or changes it.
func (d dice) ask(t *testing.T, x *layout.Tree, w *walk, stands *int) {
	t.Helper()
	i, width, height := d.IntN(len(w.l)), []int{6400, 3000, d.size()}[d.IntN(3)], d.size()
	switch d.IntN(5) {
	case 0:
		s := d.styled(t, w.l[i].Kind)
		w.set(i, s)
		if e := x.Set(i, s); e != api.OK {
			t.Error("set", i, int(e))
		}
	case 1:
		var c api.Content
		f := caught(func() { c = w.widths(i) })
		if told, at, e := x.Widths(i); told != c || at != f.node || e != f.e {
			t.Error("widths of", i, told, at, int(e), c, f)
		}
	case 2, 3:
		h := 0
		f := caught(func() { h = w.height(i, width) })
		if n, at, e := x.Height(i, width); n != h || at != f.node || e != f.e {
			t.Error("height of", i, width, n, at, int(e), h, f)
		}
	case 4:
		if w.l[i].Kind == api.NodeLeaf {
			return
		}
		var laid api.Laid
		var r []api.Rect
		f := caught(func() { laid, r = w.stand(i, width, height) })
		told, rects, at, e := x.Stand(i, width, height)
		if !sameLaid(told, laid) || !sameRects(rects, r) || at != f.node || e != f.e {
			t.Error("stand", i, width, height, told, rects, at, int(e), f)
		}
		if e == api.OK {
			*stands++
		}
	}
}

// styled is the style of a node of a kind.
func (d dice) styled(t *testing.T, kind int) api.Style {
	s := "grid { " + strings.Join(append(d.child(), d.container()...), " ") + " }"
	if kind == api.NodeLeaf {
		s = d.leaf()
	}
	return nodes(t, s)[0].Style
}

// holdStands holds what a tree tells of each container against what Layout told.
func holdStands(t *testing.T, x *layout.Tree, r []api.Rect, g []api.Laid) {
	t.Helper()
	for _, laid := range g {
		told, rects, at, e := x.Stand(laid.Node, r[laid.Node].W, r[laid.Node].H)
		if at != 0 || e != api.OK || !sameLaid(told, laid) {
			t.Error(told, at, int(e), laid)
		}
		for k, child := range laid.Children {
			if rects[k] != r[child] {
				t.Error(child, rects[k], r[child])
			}
		}
	}
}

// holdFault finds the error that Layout told.
func holdFault(t *testing.T, x *layout.Tree, s size, at int, fault api.Errno) {
	t.Helper()
	l := x.Nodes()
	r := make([]api.Rect, len(l))
	r[0] = api.Rect{W: s.width, H: s.height}
	for i := range l {
		if l[i].Kind == api.NodeLeaf {
			continue
		}
		laid, rects, node, e := x.Stand(i, r[i].W, r[i].H)
		if e != api.OK {
			if node != at || e != fault {
				t.Error(node, int(e), at, int(fault))
			}
			return
		}
		for k, child := range laid.Children {
			r[child] = rects[k]
		}
	}
	t.Error("no error but", at, int(fault))
}

func TestNested(t *testing.T) { // P31.7
	held := 0
	chance(t, 3, 1500, func(d dice, l []api.Node) {
		r, g, _, e := d.space().layout(l)
		if e != api.OK {
			return
		}
		i := d.IntN(len(l))
		alone := deep(l[i:arena.End(l, i)])
		for k := range alone {
			alone[k].Parent = max(alone[k].Parent-i, -1)
		}
		inside := slices.Clone(r[i : i+len(alone)])
		inside[0].X, inside[0].Y = 0, 0
		r2, g2, at, e := layout.Layout(alone, r[i].W, true, r[i].H, true)
		if e != api.OK || at != 0 || !sameRects(inside, r2) {
			t.Error(i, at, int(e), text(inside), text(r2))
		}
		first := slices.IndexFunc(g, func(x api.Laid) bool { return x.Node >= i })
		for k, x := range g2 {
			x.Node += i
			for n := range x.Children {
				x.Children[n] += i
			}
			if held++; !sameLaid(x, g[first+k]) {
				t.Error(x, g[first+k])
			}
		}
	})
	if held < 800 {
		t.Error(held)
	}
}

func TestErrors(t *testing.T) { // P31.8
	chance(t, 4, 1500, func(d dice, l []api.Node) {
		s := d.space()
		_, _, at, e := s.layout(l)
		if at < 0 || at >= len(l) || !slices.Contains([]api.Errno{api.OK, api.ErrOver, api.ErrLimit, api.ErrFull}, e) || e != api.OK && !d.wild {
			t.Error(s, at, int(e))
		}
	})
}

func TestTelling(t *testing.T) { // what is told of a tree holds together
	chance(t, 5, 800, func(d dice, l []api.Node) {
		s := d.space()
		r, g, at, e := s.layout(l)
		if e != api.OK {
			return
		}
		if at != 0 || len(r) != len(l) || r[0].X != 0 || r[0].Y != 0 || s.wide && r[0].W != s.width || s.high && r[0].H != s.height {
			t.Error(s, at, text(r))
		}
		for i, n := range l {
			if n.Kind == api.NodeLeaf {
				continue
			}
			if len(g) == 0 || g[0].Node != i || g[0].Width != r[i].W || g[0].Height != r[i].H || !slices.Equal(g[0].Children, arena.Ordered(l, i)) || len(g[0].Cells) != len(g[0].Children) {
				t.Error(i, g)
				return
			}
			g = g[1:]
		}
		if len(g) > 0 {
			t.Error(g)
		}
	})
}

func sameRects(a, b []api.Rect) bool { return slices.Equal(a, b) }

func sameGrids(a, b []api.Laid) bool { return slices.EqualFunc(a, b, sameLaid) }

// sameLaid holds two containers against each other; lists without an element are alike.
func sameLaid(a, b api.Laid) bool { return reflect.DeepEqual(filled(a), filled(b)) }

func filled(g api.Laid) api.Laid {
	g.Children = append([]int{}, g.Children...)
	g.Cells = append([]api.Cell{}, g.Cells...)
	for _, s := range []*api.Side{&g.Cols, &g.Rows} {
		s.Sizes, s.Starts = append([]int{}, s.Sizes...), append([]int{}, s.Starts...)
		s.Tracks.List = append([]api.Track{}, s.Tracks.List...)
		s.Tracks.Gone = append([]bool{}, s.Tracks.Gone...)
		s.Tracks.Ahead = append([]int{}, s.Tracks.Ahead...)
	}
	return g
}
