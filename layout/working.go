package layout

import (
	"parterre/api"
	"parterre/arena"
	"parterre/base"
	"parterre/content"
	"parterre/contrib"
	"parterre/explicit"
	"parterre/implicit"
	"parterre/intrinsic"
	"parterre/tracks"
)

// working is a container that is being worked out. What is known of its children stands in their order.
type working struct {
	tree            *Tree
	style           api.Style
	grid            api.Grid
	laid            api.Laid
	widths, heights []api.Content
	margins         [][4]api.Margin
	rects           []api.Rect
}

// begin asks for the widths of what stands in a container, ahead of all that is its own.
func (t *Tree) begin(i int) *working {
	children := arena.Ordered(t.nodes, i)
	w := &working{tree: t, style: t.nodes[i].Style, laid: api.Laid{Node: i, Children: children}}
	for _, child := range children {
		w.widths = append(w.widths, t.widths(child))
	}
	w.heights = make([]api.Content, len(children))
	w.margins = make([][4]api.Margin, len(children))
	w.rects = make([]api.Rect, len(children))
	return w
}

func (w *working) check(e api.Errno) { check(w.laid.Node, e) }

func (w *working) child(k int) api.Style { return w.tree.nodes[w.laid.Children[k]].Style }

// findWidths tells the least and the greatest width of what stands in the container.
func (w *working) findWidths() api.Content {
	w.open(0, false, 0, false)
	a := w.columns()
	t := w.tracks(a)
	least := w.sum(t, w.sizes(a, t, 0, intrinsic.MinContent))
	greatest := w.sum(t, w.sizes(a, t, 0, intrinsic.MaxContent))
	return api.Content{Min: least, Max: max(least, greatest)}
}

// findHeight tells the height of what stands in the container, if that is so wide.
func (w *working) findHeight(width int) int {
	w.open(width, true, 0, false)
	w.standAcross(width)
	w.askHeights()
	a := w.rows()
	t := w.tracks(a)
	height := w.sum(t, w.sizes(a, t, 0, intrinsic.MaxContent))
	if hasPercentages(w.style) {
		// The rows are held against the height that came of them. That changes it no more, but it may fail.
		var e api.Errno
		a.gap, e = explicit.Gap(w.style.RowGap, height, true)
		w.check(e)
		w.sizes(a, w.tracks(a), height, intrinsic.Plain)
	}
	return height
}

// stand lays the container out.
func (w *working) stand(width, height int) {
	w.laid.Width, w.laid.Height = width, height
	w.open(width, true, height, true)
	w.standAcross(width)
	w.askHeights()
	w.standDown(height)
}

// open finds the container's grid, and the children's cells in it.
func (w *working) open(width int, wide bool, height int, high bool) {
	w.tree.worked++
	var e api.Errno
	w.grid, e = explicit.Grid(w.style, width, wide, height, high)
	w.check(e)
	w.laid.Cells, e = cells(w.tree.nodes, w.laid.Children, w.style, w.grid)
	w.check(e)
}

// axis is what is unlike along the two axes of a container.
type axis struct {
	rows     bool
	explicit api.Axis
	lines    int
	auto     []api.Track
	gap      int
	align    int
	contents []api.Content // of the children
}

func (w *working) columns() axis {
	return axis{false, w.grid.Cols, len(w.grid.ColNames), w.style.AutoCols, w.grid.ColGap, w.style.JustifyContent, w.widths}
}

func (w *working) rows() axis {
	return axis{true, w.grid.Rows, len(w.grid.RowNames), w.style.AutoRows, w.grid.RowGap, w.style.AlignContent, w.heights}
}

// span tells which tracks a cell takes, the first one that is there being 0.
func (a axis) span(c api.Cell, low int) (from, to int) {
	if a.rows {
		return c.Row - low, c.Row + c.Rows - low
	}
	return c.Col - low, c.Col + c.Cols - low
}

func (w *working) tracks(a axis) api.Tracks {
	t, e := implicit.Tracks(a.explicit, a.lines, a.auto, w.laid.Cells, a.rows, a.gap)
	w.check(e)
	return t
}

func (w *working) sum(t api.Tracks, sizes []int) int {
	n, e := tracks.Sum(t, sizes)
	w.check(e)
	return n
}

// sizes tells the sizes of tracks, for one of intrinsic's modes. To stretch counts in a size alone.
func (w *working) sizes(a axis, t api.Tracks, size, mode int) []int {
	begun, e := base.All(t, size, mode == intrinsic.Plain)
	w.check(e)
	wants := make([]api.Want, len(w.laid.Children))
	for k := range wants {
		from, to := a.span(w.laid.Cells[k], t.Low)
		// Want asks about all tracks that it is handed, for each child: it is handed the child's own, as if there were no others.
		want, e := contrib.Want(w.child(k), a.rows, a.contents[k], begun[from:to], t.Ahead[from:to], 0, to-from)
		w.check(e)
		want.From, want.To = from, to
		wants[k] = want
	}
	sizes, e := tracks.Size(t, size, mode, wants, a.align == api.AlignNormal || a.align == api.AlignStretch)
	w.check(e)
	return sizes
}

// side tells the tracks of an axis, sized and placed in a size.
func (w *working) side(a axis, size int) api.Side {
	s := api.Side{Tracks: w.tracks(a)}
	s.Sizes = w.sizes(a, s.Tracks, size, intrinsic.Plain)
	var e api.Errno
	s.Starts, e = content.Starts(s.Tracks, s.Sizes, size, a.align)
	w.check(e)
	return s
}
