package layout_test

import (
	"parterre/api"
	"parterre/arena"
	"parterre/base"
	"parterre/content"
	"parterre/contrib"
	"parterre/explicit"
	"parterre/implicit"
	"parterre/intrinsic"
	"parterre/leaf"
	"parterre/place"
	"parterre/resolve"
	"parterre/self"
	"parterre/tracks"
)

// walk lays nodes out as the document says it. What it was asked of a container it keeps, and counts how often it had to find out.
type walk struct {
	l      []api.Node
	known  map[asked]told
	worked int
}

type asked struct {
	node, width int
	high        bool
}

type told struct {
	c api.Content
	f failed
}

type failed struct {
	node int
	e    api.Errno
}

func newWalk(l []api.Node) *walk { return &walk{l: deep(l), known: map[asked]told{}} }

func (w *walk) set(i int, s api.Style) {
	w.l[i].Style = s
	for q := range w.known {
		for k := i; k >= 0; k = w.l[k].Parent {
			if q.node == k {
				delete(w.known, q)
			}
		}
	}
}

// once works something out, if it is not known.
func (w *walk) once(q asked, work func() api.Content) api.Content {
	x, is := w.known[q]
	if !is {
		x.f = caught(func() { x.c = work() })
	}
	if w.l[q.node].Kind == api.NodeGrid {
		w.known[q] = x
	}
	if x.f.e != api.OK {
		panic(x.f)
	}
	return x.c
}

func must[T any](node int) func(T, api.Errno) T {
	return func(v T, e api.Errno) T {
		if e != api.OK {
			panic(failed{node, e})
		}
		return v
	}
}

func caught(work func()) (f failed) {
	defer func() {
		if x := recover(); x != nil {
			f = x.(failed)
		}
	}()
	work()
	return failed{}
}

func (w *walk) children(i int) []int { return arena.Ordered(w.l, i) }

func (w *walk) widths(i int) api.Content {
	return w.once(asked{i, 0, false}, func() api.Content {
		num := must[int](i)
		if w.l[i].Kind == api.NodeLeaf {
			return api.Content{Min: num(leaf.Min(w.l[i].Style.Content)), Max: num(leaf.Max(w.l[i].Style.Content))}
		}
		for _, k := range w.children(i) {
			w.widths(k)
		}
		w.worked++
		g := must[api.Grid](i)(explicit.Grid(w.l[i].Style, 0, false, 0, false))
		cells := must[[]api.Cell](i)(w.cells(i, g))
		t := w.tracks(i, g, cells, false, g.ColGap)
		least := num(tracks.Sum(t, w.sizes(i, t, cells, false, 0, intrinsic.MinContent, nil)))
		greatest := num(tracks.Sum(t, w.sizes(i, t, cells, false, 0, intrinsic.MaxContent, nil)))
		return api.Content{Min: least, Max: max(greatest, least)}
	})
}

func (w *walk) cells(i int, g api.Grid) ([]api.Cell, api.Errno) {
	var items []api.Item
	for _, k := range w.children(i) {
		s := w.l[k].Style
		row, _ := resolve.Span(g.RowNames, s.RowStart, s.RowEnd)
		col, _ := resolve.Span(g.ColNames, s.ColStart, s.ColEnd)
		items = append(items, api.Item{Row: row, Col: col})
	}
	return place.Place(items, len(g.RowNames)-1, len(g.ColNames)-1, w.l[i].Style.Column, w.l[i].Style.Dense)
}

func (w *walk) tracks(i int, g api.Grid, cells []api.Cell, rows bool, gap int) api.Tracks {
	s := w.l[i].Style
	if rows {
		return must[api.Tracks](i)(implicit.Tracks(g.Rows, len(g.RowNames), s.AutoRows, cells, true, gap))
	}
	return must[api.Tracks](i)(implicit.Tracks(g.Cols, len(g.ColNames), s.AutoCols, cells, false, gap))
}

// sizes tells sizes of columns, or of rows, of which the children's heights are handed in.
func (w *walk) sizes(i int, t api.Tracks, cells []api.Cell, rows bool, size, mode int, heights []int) []int {
	begun := must[[]api.Sizing](i)(base.All(t, size, mode == intrinsic.Plain))
	var wants []api.Want
	for n, k := range w.children(i) {
		from, to, c := cells[n].Col, cells[n].Col+cells[n].Cols, api.Content{}
		if rows {
			from, to, c = cells[n].Row, cells[n].Row+cells[n].Rows, api.Content{Min: heights[n], Max: heights[n]}
		} else {
			c = w.widths(k)
		}
		wants = append(wants, must[api.Want](i)(contrib.Want(w.l[k].Style, rows, c, begun, t.Ahead, from-t.Low, to-t.Low)))
	}
	align := w.l[i].Style.JustifyContent
	if rows {
		align = w.l[i].Style.AlignContent
	}
	return must[[]int](i)(tracks.Size(t, size, mode, wants, align == api.AlignNormal || align == api.AlignStretch))
}

func (w *walk) height(i, width int) int {
	return w.once(asked{i, width, true}, func() api.Content {
		if w.l[i].Kind == api.NodeLeaf {
			return api.Content{Min: must[int](i)(leaf.Height(w.l[i].Style.Content, width))}
		}
		laid, _ := w.container(i, width, 0, false)
		return api.Content{Min: laid.Height}
	}).Min
}

func (w *walk) container(i, width, height int, high bool) (api.Laid, []api.Rect) {
	for _, k := range w.children(i) {
		w.widths(k)
	}
	w.worked++
	s := w.l[i].Style
	g := must[api.Grid](i)(explicit.Grid(s, width, true, height, high))
	laid := api.Laid{Node: i, Width: width, Height: height, Children: w.children(i)}
	laid.Cells = must[[]api.Cell](i)(w.cells(i, g))
	cols := w.tracks(i, g, laid.Cells, false, g.ColGap)
	laid.Cols = w.side(i, cols, w.sizes(i, cols, laid.Cells, false, width, intrinsic.Plain, nil), width, s.JustifyContent)
	rects := make([]api.Rect, len(laid.Children))
	heights := make([]int, len(laid.Children))
	for n, k := range laid.Children {
		w.across(&rects[n], i, k, laid.Cols, laid.Cells[n])
	}
	for n, k := range laid.Children {
		heights[n] = w.height(k, rects[n].W)
	}
	rows := w.tracks(i, g, laid.Cells, true, g.RowGap)
	var sizes []int
	if high {
		sizes = w.sizes(i, rows, laid.Cells, true, height, intrinsic.Plain, heights)
	} else {
		sizes = w.sizes(i, rows, laid.Cells, true, 0, intrinsic.MaxContent, heights)
		laid.Height = must[int](i)(tracks.Sum(rows, sizes))
		if percent(s) {
			rows = w.tracks(i, g, laid.Cells, true, must[int](i)(explicit.Gap(s.RowGap, laid.Height, true)))
			w.sizes(i, rows, laid.Cells, true, laid.Height, intrinsic.Plain, heights)
		}
		return laid, nil
	}
	laid.Rows = w.side(i, rows, sizes, height, s.AlignContent)
	for n, k := range laid.Children {
		w.down(&rects[n], i, k, laid, n, heights[n])
	}
	return laid, rects
}

func (w *walk) side(i int, t api.Tracks, sizes []int, size, align int) api.Side {
	return api.Side{Tracks: t, Sizes: sizes, Starts: must[[]int](i)(content.Starts(t, sizes, size, align))}
}

func (w *walk) area(i int, s api.Side, from, to int) (int, int) {
	at, size, e := content.Area(s.Tracks, s.Starts, s.Sizes, from, to)
	must[int](i)(at, e)
	return at, size
}

func (w *walk) across(r *api.Rect, i, k int, cols api.Side, c api.Cell) {
	at, size := w.area(i, cols, c.Col, c.Col+c.Cols)
	s := w.l[k].Style
	m := must[[4]api.Margin](i)(self.Margins(s, size, true))
	justify, _ := arena.Sides(w.l[i].Style, s)
	r.W = must[int](i)(self.Used(s.Width, s.MinWidth, s.MaxWidth, size, m[3], m[1], w.widths(k), justify == api.AlignStretch))
	r.X = at + self.Place(size, r.W, m[3], m[1], justify)
}

func (w *walk) down(r *api.Rect, i, k int, laid api.Laid, n, h int) {
	c := laid.Cells[n]
	_, wide := w.area(i, laid.Cols, c.Col, c.Col+c.Cols)
	at, size := w.area(i, laid.Rows, c.Row, c.Row+c.Rows)
	s := w.l[k].Style
	m := must[[4]api.Margin](i)(self.Margins(s, wide, true))
	_, align := arena.Sides(w.l[i].Style, s)
	r.H = must[int](i)(self.Used(s.Height, s.MinHeight, s.MaxHeight, size, m[0], m[2], api.Content{Min: h, Max: h}, align == api.AlignStretch))
	r.Y = at + self.Place(size, r.H, m[0], m[2], align)
}

// stand lays a container out as a tree does.
func (w *walk) stand(i, width, height int) (laid api.Laid, rects []api.Rect) {
	w.widths(i)
	return w.container(i, width, height, true)
}

// layout lays all nodes out.
func (w *walk) layout(s size) (rects []api.Rect, grids []api.Laid) {
	c := w.widths(0)
	if !s.wide {
		s.width = c.Max
	}
	if !s.high {
		s.height = w.height(0, s.width)
	}
	rects = make([]api.Rect, len(w.l))
	rects[0] = api.Rect{W: s.width, H: s.height}
	for i, n := range w.l {
		if n.Kind == api.NodeGrid {
			laid, inside := w.container(i, rects[i].W, rects[i].H, true)
			for k, child := range laid.Children {
				rects[child] = inside[k]
			}
			grids = append(grids, laid)
		}
	}
	return rects, grids
}

// percent tells whether a percentage sizes rows.
func percent(s api.Style) bool {
	is := s.RowGap.Kind == api.LenPct
	size := func(x api.Track) {
		for _, v := range []api.Len{x.Min, x.Max, x.Limit} {
			is = is || v.Kind == api.LenPct
		}
	}
	for _, x := range s.AutoRows {
		size(x)
	}
	for _, p := range s.Rows {
		size(p.Track)
		for _, q := range p.Inner {
			size(q.Track)
		}
	}
	return is
}
