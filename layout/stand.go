package layout

import (
	"parterre/api"
	"parterre/arena"
	"parterre/content"
	"parterre/self"
)

// standAcross sizes the columns, and tells where the children stand along the row, and how wide they are.
func (w *working) standAcross(width int) {
	a := w.columns()
	w.laid.Cols = w.side(a, width)
	for k := range w.rects {
		at, area := w.area(a, w.laid.Cols, k)
		s := w.child(k)
		m, e := self.Margins(s, area, true)
		w.check(e)
		w.margins[k] = m
		justify, _ := arena.Sides(w.style, s)
		b := box{s.Width, s.MinWidth, s.MaxWidth, [2]api.Margin{m[3], m[1]}, w.widths[k], justify}
		w.rects[k].X, w.rects[k].W = w.stands(b, at, area)
	}
}

// askHeights asks for the children's heights, at the widths that they have.
func (w *working) askHeights() {
	for k, child := range w.laid.Children {
		n := w.tree.height(child, w.rects[k].W)
		w.heights[k] = api.Content{Min: n, Max: n}
	}
}

// standDown sizes the rows, and tells where the children stand along the column, and how high they are.
func (w *working) standDown(height int) {
	a := w.rows()
	w.laid.Rows = w.side(a, height)
	for k := range w.rects {
		at, area := w.area(a, w.laid.Rows, k)
		s, m := w.child(k), w.margins[k]
		_, align := arena.Sides(w.style, s)
		b := box{s.Height, s.MinHeight, s.MaxHeight, [2]api.Margin{m[0], m[2]}, w.heights[k], align}
		w.rects[k].Y, w.rects[k].H = w.stands(b, at, area)
	}
}

// area tells where a child's area begins along an axis, and how much it has.
func (w *working) area(a axis, s api.Side, k int) (at, size int) {
	from, to := a.span(w.laid.Cells[k], s.Tracks.Low)
	// Area asks about all tracks that it is handed, for each child: it is handed the child's own, as if there were no others, nor gaps, which it tells by where tracks begin.
	own := api.Tracks{List: s.Tracks.List[from:to], Gone: s.Tracks.Gone[from:to], Ahead: make([]int, to-from)}
	at, size, e := content.Area(own, s.Starts[from:to], s.Sizes[from:to], 0, to-from)
	w.check(e)
	return at, size
}

// box is a child along an axis.
type box struct {
	size, least, greatest api.Len
	margins               [2]api.Margin // ahead of it, and behind it
	content               api.Content
	align                 int
}

// stands tells where a box begins in its area, and how much it has of it.
func (w *working) stands(b box, at, area int) (start, size int) {
	ahead, behind := b.margins[0], b.margins[1]
	size, e := self.Used(b.size, b.least, b.greatest, area, ahead, behind, b.content, b.align == api.AlignStretch)
	w.check(e)
	return at + self.Place(area, size, ahead, behind, b.align), size
}
