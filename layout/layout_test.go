package layout_test

import (
	"slices"
	"strings"
	"testing"

	"parterre/api"
	"parterre/document"
	"parterre/explicit"
	"parterre/layout"
)

func cell(row, col, rows, cols int) api.Cell {
	return api.Cell{Row: row, Col: col, Rows: rows, Cols: cols}
}

func TestCells(t *testing.T) { // P31.1
	for _, x := range []struct {
		s    string
		want []api.Cell
	}{
		{"grid { }", nil},
		{"grid { leaf { } leaf { } }", []api.Cell{cell(0, 0, 1, 1), cell(1, 0, 1, 1)}},
		{"grid { grid-template-columns: 1px 1px; leaf { } leaf { } leaf { } }", []api.Cell{cell(0, 0, 1, 1), cell(0, 1, 1, 1), cell(1, 0, 1, 1)}},
		{"grid { grid-template-rows: 1px 1px; grid-auto-flow: column; leaf { } leaf { } leaf { } }", []api.Cell{cell(0, 0, 1, 1), cell(1, 0, 1, 1), cell(0, 1, 1, 1)}},
		// In their order, what stands in a child not counted.
		{"grid { leaf { order: 2; grid-column: span 3; } grid { leaf { grid-column: span 9; } } leaf { order: -1; grid-column: span 2; } }", []api.Cell{cell(0, 0, 1, 2), cell(0, 2, 1, 1), cell(1, 0, 1, 3)}},
		// By lines of each axis, and by names, those of areas too.
		{"grid { grid-template-columns: [a] 1px [b] 1px [a]; leaf { grid-column: a 2; } leaf { grid-column: b; } leaf { grid-row: a; } leaf { grid-area: 2 / -1 / span 3 / span 2; } }", []api.Cell{cell(0, 2, 1, 1), cell(1, 1, 1, 1), cell(1, 0, 1, 1), cell(1, 2, 3, 2)}},
		{`grid { grid-template-areas: "x y" "z y"; leaf { grid-area: y; } leaf { grid-area: z; } leaf { grid-row: y; grid-column: z-end / -1; } }`, []api.Cell{cell(0, 1, 2, 1), cell(1, 0, 1, 1), cell(0, 1, 2, 1)}},
		// Where they are placed by themselves: as many columns as there are lines, less one.
		{`grid { grid-template-areas: "x x x"; leaf { } leaf { } leaf { } leaf { } }`, []api.Cell{cell(0, 0, 1, 1), cell(0, 1, 1, 1), cell(0, 2, 1, 1), cell(1, 0, 1, 1)}},
		{"grid { grid-template-columns: 1px 1px; leaf { grid-column: span 2; } leaf { } leaf { grid-column: span 2; } leaf { } }", []api.Cell{cell(0, 0, 1, 2), cell(1, 0, 1, 1), cell(2, 0, 1, 2), cell(3, 0, 1, 1)}},
		{"grid { grid-template-columns: 1px 1px; grid-auto-flow: dense; leaf { grid-column: span 2; } leaf { } leaf { grid-column: span 2; } leaf { } }", []api.Cell{cell(0, 0, 1, 2), cell(1, 0, 1, 1), cell(2, 0, 1, 2), cell(1, 1, 1, 1)}},
	} {
		l := nodes(t, x.s)
		g, e := explicit.Grid(l[0].Style, 0, false, 0, false)
		if e != api.OK {
			t.Fatal(x.s, int(e))
		}
		if c, e := layout.Cells(l, 0, g); e != api.OK || !slices.Equal(c, x.want) {
			t.Error(x.s, c, int(e))
		}
	}
	// A grid that is handed in, whatever the container's own.
	l := nodes(t, "grid { leaf { } grid { leaf { } leaf { } leaf { grid-column: n; } } }")
	g := api.Grid{ColNames: [][]string{nil, nil, {"n"}}, RowNames: [][]string{nil}, Cols: api.Axis{Lines: [][]string{nil}}, Rows: api.Axis{Lines: [][]string{nil}}}
	if c, e := layout.Cells(l, 2, g); e != api.OK || !slices.Equal(c, []api.Cell{cell(0, 0, 1, 1), cell(0, 1, 1, 1), cell(0, 2, 1, 1)}) {
		t.Error(c, int(e))
	}
}

func TestCellsWrong(t *testing.T) { // P31.1
	l := nodes(t, "grid { leaf { } leaf { grid-column: auto / span 10000; grid-row: 1; } leaf { grid-column: auto / span 10000; grid-row: 1; } }")
	good, _ := explicit.Grid(l[0].Style, 0, false, 0, false)
	fails := func(l []api.Node, i int, g api.Grid, fault api.Errno) {
		t.Helper()
		if c, e := layout.Cells(l, i, g); e != fault || len(c) != 0 {
			t.Error(i, c, int(e))
		}
	}
	fails(l, 0, good, api.ErrFull)
	for _, i := range append(noSizes(), 3, 4) {
		fails(l, i, good, api.ErrArg)
	}
	fails(l, 1, good, api.ErrArg) // a leaf
	fails(nil, 0, good, api.ErrArg)
	for _, wrong := range wrongs(t) {
		fails(wrong, 0, good, api.ErrArg)
	}
	for _, change := range []func(g *api.Grid){
		func(g *api.Grid) { *g = api.Grid{} },
		func(g *api.Grid) { g.RowNames = nil },
		func(g *api.Grid) { g.ColNames = nil },
		func(g *api.Grid) { g.RowNames = make([][]string, api.MaxLine+2) },
		func(g *api.Grid) { g.ColNames = make([][]string, api.MaxLine+2) },
		func(g *api.Grid) { g.RowGap = -1 },
		func(g *api.Grid) { g.ColGap = top + 1 },
		func(g *api.Grid) { g.Cols.From = 1 },
	} {
		g := good
		change(&g)
		fails(l, 0, g, api.ErrArg)
	}
}

// wrongs are lists of nodes that are no document's.
func wrongs(t *testing.T) [][]api.Node {
	t.Helper()
	var l [][]api.Node
	change := func(f func(l []api.Node)) {
		n := nodes(t, "grid { leaf { } leaf { content: 1px 1px; } }")
		f(n)
		l = append(l, n)
	}
	change(func(l []api.Node) { l[0].Parent = 0 })
	change(func(l []api.Node) { l[2].Parent = 1 })
	change(func(l []api.Node) { l[1].Parent = -1 })
	change(func(l []api.Node) { l[1].Kind = 0 })
	change(func(l []api.Node) { l[2].Kind = api.NodeGrid })
	change(func(l []api.Node) { l[1].Style = api.Style{} })
	change(func(l []api.Node) { l[1].Style.Order = api.MaxOrder + 1 })
	return append(l, nil, []api.Node{})
}

func TestWidths(t *testing.T) { // P31.2
	for _, x := range []struct {
		s        string
		min, max int // px
	}{
		{"leaf { }", 0, 0},
		{"leaf { content: 10px 5px / 20px 7px, 3px 3px; width: 99px; margin: 9px; }", 23, 33},
		{"grid { }", 0, 0},
		{"grid { width: 70px; margin: 3px; grid-template-columns: 10px 20px; gap: 5px; }", 35, 35},
		{"grid { leaf { content: 10px 5px / 20px 7px; } }", 20, 30},
		{"grid { leaf { content: 10px 5px / 20px 7px; margin: 1px 2px 4px 8px; } }", 30, 40},
		{"grid { grid-template-columns: auto auto; column-gap: 5px; leaf { content: 10px 5px / 20px 7px; } leaf { content: 30px 4px; } leaf { content: 1px 1px; } }", 55, 65},
		{"grid { grid-template-columns: min-content max-content; leaf { content: 10px 5px / 20px 7px; } leaf { content: 10px 5px / 20px 7px; } }", 50, 50},
		// Nothing is definite: percentages are auto, or none, and nothing is stretched.
		{"grid { grid-template-columns: 50% 50%; justify-content: stretch; column-gap: 10%; leaf { content: 10px 5px / 20px 7px; } leaf { width: 50%; content: 4px 1px; } }", 24, 34},
		{"grid { grid-template-columns: repeat(auto-fill, 10px); column-gap: 1px; }", 10, 10},
		// Flexible tracks have what they need.
		{"grid { grid-template-columns: 1fr 1fr; leaf { content: 10px 5px / 20px 7px; } leaf { content: 5px 5px; } }", 25, 60},
		{"grid { grid-template-columns: minmax(10px, 40px) fit-content(25px); leaf { } leaf { content: 10px 5px / 20px 7px; } }", 30, 65},
		// Of what stands in them, in their order, rows and columns that they ask for too.
		{"grid { grid-auto-columns: 7px 9px; leaf { grid-column: -2; } leaf { grid-column: 4; } }", 7 + 9 + 7 + 9 + 9, 7 + 9 + 7 + 9 + 9},
		{"grid { grid { leaf { content: 10px 5px / 20px 7px; } } grid { grid-template-columns: 12px 13px; } }", 25, 30},
		{"grid { grid { width: 5px; leaf { content: 10px 5px / 20px 7px; } } }", 5, 5},
		{"grid { grid { max-width: 25px; leaf { content: 10px 5px / 20px 7px; } } }", 20, 25},
	} {
		c, at, e := layout.Widths(nodes(t, x.s), 0)
		if c != (api.Content{Min: unit * x.min, Max: unit * x.max}) || at != 0 || e != api.OK {
			t.Error(x.s, c.Min/unit, c.Max/unit, at, int(e))
		}
	}
	l := nodes(t, "grid { grid { leaf { content: 10px 5px; } } leaf { content: 7px 1px; } }")
	for i, want := range []int{10, 10, 10, 7} {
		if c, _, e := layout.Widths(l, i); c != (api.Content{Min: unit * want, Max: unit * want}) || e != api.OK {
			t.Error(i, c, int(e))
		}
	}
}

func TestHeight(t *testing.T) { // P31.3
	const words = "content: 10px 5px / 20px 7px;"
	for _, x := range []struct {
		s             string
		width, height int // px
	}{
		{"leaf { }", 10, 0},
		{"leaf { height: 3px; " + words + " }", 30, 7},
		{"leaf { " + words + " }", 29, 12},
		{"leaf { " + words + " }", 0, 12},
		{"grid { }", 10, 0},
		{"grid { height: 70px; margin: 3px; grid-template-rows: 10px 20px; gap: 5px; }", 1, 35},
		{"grid { leaf { " + words + " } }", 30, 7},
		{"grid { leaf { " + words + " } }", 29, 12},
		{"grid { leaf { " + words + " margin: 1px 2px 4px 8px; } }", 40, 12},
		{"grid { leaf { " + words + " margin: 1px 2px 4px 8px; } }", 39, 17},
		// The columns are sized in the width, and each child has its used width there.
		{"grid { grid-template-columns: 1fr 2fr; leaf { " + words + " } leaf { " + words + " } }", 90, 7},
		{"grid { grid-template-columns: 1fr 2fr; leaf { " + words + " } leaf { " + words + " } }", 89, 12},
		{"grid { grid-template-columns: 50% 1fr; column-gap: 10%; leaf { " + words + " } leaf { " + words + " } }", 75, 7},
		{"grid { grid-template-columns: 50% 1fr; column-gap: 10%; leaf { " + words + " } leaf { " + words + " } }", 74, 12},
		{"grid { leaf { width: 50%; " + words + " } }", 60, 7},
		{"grid { leaf { width: 50%; " + words + " } }", 59, 12},
		{"grid { leaf { max-width: 29px; " + words + " } }", 60, 12},
		{"grid { justify-items: start; leaf { " + words + " } }", 60, 7},
		{"grid { justify-content: start; leaf { " + words + " } }", 29, 12},
		{"grid { leaf { min-width: 30px; " + words + " } }", 3, 7},
		// Rows of no definite height: what stands in them; percentages are auto, or none.
		{"grid { row-gap: 3px; leaf { content: 1px 4px; } leaf { content: 1px 5px; } leaf { } }", 9, 15},
		{"grid { row-gap: 50%; grid-template-rows: 10% auto; leaf { content: 1px 4px; } leaf { content: 1px 5px; } }", 9, 9},
		{"grid { grid-template-rows: 1fr 2fr; leaf { content: 1px 4px; } leaf { content: 1px 5px; } }", 9, 12},
		{"grid { grid-auto-rows: 7px; leaf { height: 50px; } leaf { height: 60px; grid-row: span 2; } }", 9, 21},
		{"grid { leaf { height: 50%; min-height: 9px; content: 1px 4px; } }", 9, 9},
		{"grid { grid-template-rows: repeat(auto-fill, 10px); leaf { grid-row: 3; content: 1px 2px; } }", 9, 12},
		// What stands in a child that is a grid.
		{"grid { grid { grid-template-columns: 1fr 1fr; leaf { " + words + " } leaf { } } }", 60, 7},
		{"grid { grid { grid-template-columns: 1fr 1fr; leaf { " + words + " } leaf { } } }", 59, 12},
		{"grid { grid { height: 3px; leaf { " + words + " } } }", 59, 3},
	} {
		h, at, e := layout.Height(nodes(t, x.s), 0, unit*x.width)
		if h != unit*x.height || at != 0 || e != api.OK {
			t.Error(x.s, x.width, h/unit, at, int(e))
		}
	}
	l := nodes(t, "grid { grid { leaf { "+words+" } } leaf { content: 7px 1px; } }")
	for i, want := range []int{8, 7, 7, 1} {
		if h, _, e := layout.Height(l, i, 30*unit); h != unit*want || e != api.OK {
			t.Error(i, h, int(e))
		}
	}
}

func TestWrong(t *testing.T) { // the section Words
	for _, l := range wrongs(t) {
		c, at, e := layout.Widths(l, 0)
		if c != (api.Content{}) || at != 0 || e != api.ErrArg {
			t.Error(l, c, at, int(e))
		}
		h, at, e := layout.Height(l, 0, 5)
		if h != 0 || at != 0 || e != api.ErrArg {
			t.Error(l, h, at, int(e))
		}
		r, g, at, e := layout.Layout(l, 5, true, 5, true)
		if len(r) > 0 || len(g) > 0 || at != 0 || e != api.ErrArg {
			t.Error(l, r, g, at, int(e))
		}
	}
	l := nodes(t, "grid { leaf { } grid { grid-template-columns: repeat(10000, 1px 1px); } }") // ErrArg goes ahead of its own
	for _, i := range append(noSizes(), 3) {
		if c, at, e := layout.Widths(l, i); c != (api.Content{}) || at != 0 || e != api.ErrArg {
			t.Error(i, c, at, int(e))
		}
		if h, at, e := layout.Height(l, i, 5); h != 0 || at != 0 || e != api.ErrArg {
			t.Error(i, h, at, int(e))
		}
	}
	for _, n := range noSizes() {
		for i := range l {
			if h, at, e := layout.Height(l, i, n); h != 0 || at != 0 || e != api.ErrArg {
				t.Error(n, i, h, at, int(e))
			}
		}
		if r, g, at, e := layout.Layout(l, n, true, 5, true); len(r) > 0 || len(g) > 0 || at != 0 || e != api.ErrArg {
			t.Error(n, r, g, at, int(e))
		}
		if r, g, at, e := layout.Layout(l, 5, true, n, true); len(r) > 0 || len(g) > 0 || at != 0 || e != api.ErrArg {
			t.Error(n, r, g, at, int(e))
		}
		// A size that is not definite may be any number.
		if r, _, at, e := layout.Layout(l[:2], n, false, n, false); text(r) != "0 0 0 0, 0 0 0 0" || at != 0 || e != api.OK {
			t.Error(n, r, at, int(e))
		}
	}
}

// in is a size of px; below 0 it is not definite.
func in(width, height int) size {
	return size{unit * width, width >= 0, unit * height, height >= 0}
}

const no = -1

func TestLayout(t *testing.T) { // P31.4
	for _, x := range []struct {
		s    string
		in   size
		want string
	}{
		// Examples of the document.
		{"grid { grid-template-columns: 100px 1fr; leaf { content: 10px 20px; } leaf { } }", in(300, no), "0 0 300 20, 0 0 100 20, 100 0 200 20"},
		{"grid { grid-template-columns: 100px 1fr 2fr; leaf { } leaf { } leaf { } }", in(400, 1), "0 0 400 1, 0 0 100 1, 100 0 100 1, 200 0 200 1"},
		{"grid { grid-template-columns: 100px 1fr 2fr; leaf { } leaf { } leaf { } }", in(401, 1), "0 0 401 1, 0 0 100 1, 100 0 100.328125 1, 200.328125 0 200.671875 1"},
		{"grid { grid-template-columns: auto; leaf { content: 10px 1px / 20px 1px; } leaf { content: 20px 1px; } }", in(5, no), "0 0 5 3, 0 0 20 2, 0 2 20 1"},
		{"grid { justify-content: space-between; grid-template-columns: 10px 10px 10px; leaf { } leaf { } leaf { } }", in(60, 1), "0 0 60 1, 0 0 10 1, 25 0 10 1, 50 0 10 1"},
		{"grid { grid-template-columns: 100px; leaf { width: 40px; margin-left: auto; } }", in(100, 5), "0 0 100 5, 60 0 40 5"},
		{`grid { grid-template-areas: "b a a" "c a a"; grid-auto-rows: 10px; grid-auto-columns: 7px; leaf { grid-area: a; } }`, in(50, no), "0 0 50 20, 7 0 14 20"},
		{"grid { grid-template-columns: 10px 20px; grid-auto-columns: 3px; leaf { grid-column: -1 / span 2; } }", in(50, 1), "0 0 50 1, 30 0 6 1"},
		// The first node: its own sizes and margins count for nothing.
		{"leaf { }", in(no, no), "0 0 0 0"},
		{"leaf { content: 10px 5px / 20px 7px; width: 3px; height: 3px; margin: 9px; }", in(no, no), "0 0 30 7"},
		{"leaf { content: 10px 5px / 20px 7px; }", in(29, no), "0 0 29 12"},
		{"leaf { content: 10px 5px / 20px 7px; }", in(no, 3), "0 0 30 3"},
		{"leaf { content: 10px 5px / 20px 7px; }", in(0, 0), "0 0 0 0"},
		{"grid { width: 3px; max-height: 2px; margin: 9px; leaf { content: 10px 5px / 20px 7px; } }", in(no, no), "0 0 30 7, 0 0 30 7"},
		{"grid { leaf { content: 10px 5px / 20px 7px; } }", in(no, 20), "0 0 30 20, 0 0 30 20"},
		{"grid { leaf { content: 10px 5px / 20px 7px; } }", in(25, no), "0 0 25 12, 0 0 25 12"},
		{"grid { }", in(0, 0), "0 0 0 0"},
		// Where tracks stand, along each axis by its own alignment.
		{"grid { grid-template: 10px 10px / 20px; place-content: end center; leaf { } leaf { } }", in(100, 60), "0 0 100 60, 40 40 20 10, 40 50 20 10"},
		{"grid { grid-template: 10px 10px / 20px 20px; place-content: space-evenly space-around; leaf { } leaf { } leaf { } }", in(100, 50), "0 0 100 50, 15 10 20 10, 65 10 20 10, 15 30 20 10"},
		{"grid { grid-template: 10px 10px / 20px; place-content: end center; leaf { } leaf { } }", in(10, 10), "0 0 10 10, -5 -10 20 10, -5 0 20 10"},
		// Auto tracks are stretched along an axis, if that is aligned so.
		{"grid { grid-template: auto 10px / auto 20px; leaf { } }", in(100, 60), "0 0 100 60, 0 0 80 50"},
		{"grid { grid-template: auto 10px / auto 20px; place-content: stretch; leaf { } }", in(100, 60), "0 0 100 60, 0 0 80 50"},
		{"grid { grid-template: auto 10px / auto 20px; place-content: start stretch; leaf { } }", in(100, 60), "0 0 100 60, 0 0 80 0"},
		{"grid { grid-template: auto 10px / auto 20px; place-content: stretch start; leaf { } }", in(100, 60), "0 0 100 60, 0 0 0 50"},
		// Gaps along each axis, of percentages too.
		{"grid { grid-template: 10px 10px / 20px 20px; gap: 10% 20%; leaf { } leaf { } leaf { } }", in(100, 50), "0 0 100 50, 0 0 20 10, 40 0 20 10, 0 15 20 10"},
		{"grid { grid-template: 10px 10px / 20px 20px; gap: 10% 20%; leaf { } leaf { } leaf { } }", in(100, no), "0 0 100 20, 0 0 20 10, 40 0 20 10, 0 12 20 10"},
		// Percentages of rows: of the height that came without them.
		{"grid { grid-template-rows: 50% 10px; leaf { content: 5px 30px; } leaf { } }", in(100, no), "0 0 100 40, 0 0 100 20, 0 20 100 10"},
		{"grid { grid-auto-rows: 50%; align-content: end; leaf { content: 5px 30px; } leaf { content: 5px 10px; } }", in(100, no), "0 0 100 40, 0 0 100 20, 0 20 100 20"},
		// Boxes in their areas.
		{"grid { place-items: end center; leaf { width: 40px; height: 20px; } }", in(100, 60), "0 0 100 60, 30 40 40 20"},
		{"grid { place-items: end center; leaf { place-self: stretch start; content: 5px 3px / 4px 3px; } }", in(100, 60), "0 0 100 60, 0 0 9 60"},
		{"grid { place-items: start; leaf { justify-self: normal; content: 5px 3px; } }", in(100, 60), "0 0 100 60, 0 0 100 3"},
		{"grid { leaf { margin: 1px 2px 4px 8px; } }", in(100, 60), "0 0 100 60, 8 1 90 55"},
		{"grid { place-items: end; leaf { margin: 1px 2px 4px 8px; width: 10px; height: 10px; } }", in(100, 60), "0 0 100 60, 88 46 10 10"},
		{"grid { leaf { margin: auto; width: 10px; height: 10px; } }", in(100, 60), "0 0 100 60, 45 25 10 10"},
		{"grid { leaf { margin: 0px auto auto 0px; content: 10px 3px; } }", in(100, 60), "0 0 100 60, 0 0 10 3"},
		{"grid { grid-template: 40px / 50px; leaf { margin: 10% 20%; } }", in(100, 60), "0 0 100 60, 10 5 30 30"}, // of the area's width along both axes
		{"grid { grid-template: 40px / 50px; leaf { grid-area: 1 / 1; width: 50%; height: 50%; } leaf { grid-area: 1 / 1; min-width: 150%; max-height: 25%; } }", in(100, 60), "0 0 100 60, 0 0 25 20, 0 0 75 10"},
		{"grid { grid-template: 40px / 50px; leaf { width: min-content; height: max-content; content: 10px 1px / 20px 2px; } }", in(100, 60), "0 0 100 60, 0 0 20 3"},
		// A child's height is asked at its used width, and counts along the column.
		{"grid { grid-template-columns: 25px; leaf { content: 10px 5px / 20px 7px; } leaf { width: 30px; content: 10px 5px / 20px 7px; } }", in(100, no), "0 0 100 19, 0 0 25 12, 0 12 30 7"},
		{"grid { align-items: start; leaf { content: 10px 5px / 20px 7px; } }", in(25, 90), "0 0 25 90, 0 0 25 12"},
		// Children in their order; told where they stand in the document.
		{"grid { grid-template-columns: 10px 20px 30px; leaf { order: 1; } leaf { } leaf { order: -1; } }", in(60, 5), "0 0 60 5, 30 0 30 5, 10 0 20 5, 0 0 10 5"},
		// Children that stand in tracks ahead of the explicit ones, and behind them.
		{"grid { grid-template: 10px / 20px; grid-auto-rows: 1px 2px; grid-auto-columns: 3px 4px; leaf { grid-area: -4 / -4; } leaf { grid-area: 1 / 1; } leaf { grid-area: 3 / 2 / 4 / 4; } }", in(60, 60), "0 0 60 60, 0 0 3 1, 7 3 20 10, 27 14 7 2"},
		// Containers in containers, from their corners on.
		{"grid { grid-template-columns: 10px 1fr; leaf { } grid { margin: 1px; grid-template-columns: 1fr 3fr; leaf { } grid { place-content: end; grid-template: 2px / 3px; leaf { } } } }", in(52, 12), "0 0 52 12, 0 0 10 12, 11 1 40 10, 0 0 10 10, 10 0 30 10, 27 8 3 2"},
		{"grid { grid { grid-template-rows: 1fr 1fr; leaf { } leaf { } } }", in(20, 30), "0 0 20 30, 0 0 20 30, 0 0 20 15, 0 15 20 15"}, // its used size is definite
		{"grid { align-items: start; grid { grid-template-rows: 50% 50%; leaf { content: 1px 10px; } leaf { } } }", in(20, 30), "0 0 20 30, 0 0 20 10, 0 0 20 5, 0 5 20 5"},
		{"grid { justify-items: start; grid { grid-area: 1 / 1; leaf { content: 10px 5px / 20px 7px; } } leaf { grid-area: 1 / 1; width: 50px; } }", in(90, 30), "0 0 90 30, 0 0 30 30, 0 0 30 30, 0 0 50 30"},
		{"grid { grid-template-columns: repeat(auto-fit, 100px); gap: 10px; justify-content: end; leaf { } leaf { } }", in(350, 10), "0 0 350 10, 140 0 100 10, 250 0 100 10"},
		{"grid { grid-template-rows: repeat(auto-fill, 10px); grid-auto-flow: column; leaf { } leaf { } leaf { } }", in(30, 25), "0 0 30 25, 0 0 15 10, 0 10 15 10, 15 0 15 10"},
	} {
		r, _, at, e := x.in.layout(nodes(t, x.s))
		if s := text(r); s != x.want || at != 0 || e != api.OK {
			t.Errorf("%s: %s, %d, %d", x.s, s, at, int(e))
		}
	}
}

func TestLaid(t *testing.T) { // P31.4: each container
	l := nodes(t, `grid { grid-template: 10px / 20px auto; grid-auto-columns: 5px; gap: 1px; justify-content: start;
		leaf { order: 1; grid-column: -5; } grid { grid-area: 2 / 1 / span 2; grid-template-columns: repeat(auto-fit, 4px); justify-content: end; leaf { } } leaf { grid-area: 1 / 2; width: 7px; } }`)
	r, g, at, e := in(100, 40).layout(l)
	if text(r) != "0 0 100 40, 0 0 5 10, 12 11 20 29, 16 0 4 29, 33 0 7 10" || at != 0 || e != api.OK || len(g) != 2 {
		t.Fatal(text(r), at, int(e), len(g))
	}
	holdLaid(t, g[0], api.Laid{Node: 0, Width: 6400, Height: 2560, Children: []int{2, 4, 1}, Cells: []api.Cell{cell(1, 0, 2, 1), cell(0, 1, 1, 1), cell(0, -2, 1, 1)}})
	holdSide(t, g[0].Cols, -2, "5 5 20 7", "0 6 12 33", "0 1 1 1")
	holdSide(t, g[0].Rows, 0, "10 14 14", "0 11 26", "0 1 1")
	holdLaid(t, g[1], api.Laid{Node: 2, Width: 1280, Height: 29 * unit, Children: []int{3}, Cells: []api.Cell{cell(0, 0, 1, 1)}})
	holdSide(t, g[1].Cols, 0, "4 0 0 0 0", "16 20 20 20 20", "0 0 0 0 0")
	if !slices.Equal(g[1].Cols.Tracks.Gone, []bool{false, true, true, true, true}) {
		t.Error(g[1].Cols.Tracks)
	}
	holdSide(t, g[1].Rows, 0, "29", "0", "0")

	if _, g, _, e := in(5, 5).layout(nodes(t, "leaf { }")); len(g) != 0 || e != api.OK {
		t.Error(g, int(e))
	}
	_, g, _, e = in(9, 5).layout(nodes(t, "grid { }"))
	if e != api.OK || len(g) != 1 {
		t.Fatal(g, int(e))
	}
	holdLaid(t, g[0], api.Laid{Width: 9 * unit, Height: 5 * unit})
	holdSide(t, g[0].Cols, 0, "", "", "")
	holdSide(t, g[0].Rows, 0, "", "", "")
}

// holdLaid holds all that is told of a container but its tracks.
func holdLaid(t *testing.T, g, want api.Laid) {
	t.Helper()
	if g.Node != want.Node || g.Width != want.Width || g.Height != want.Height || !slices.Equal(g.Children, want.Children) || !slices.Equal(g.Cells, want.Cells) {
		t.Error(g, want)
	}
}

func holdSide(t *testing.T, s api.Side, low int, sizes, starts, ahead string) {
	t.Helper()
	count := len(strings.Fields(sizes))
	if s.Tracks.Low != low || len(s.Tracks.List) != count || len(s.Tracks.Gone) != count || lengths(s.Sizes) != sizes || lengths(s.Starts) != starts || lengths(s.Tracks.Ahead) != ahead {
		t.Error(s, lengths(s.Sizes), lengths(s.Starts), lengths(s.Tracks.Ahead))
	}
}

const (
	over  = "leaf { content: 1073741824px 0px / 1px 0px; }" // ErrOver, whatever is asked
	limit = "grid-template-columns: repeat(10000, 1px 1px);"
	full  = "leaf { grid-row: 1; grid-column: span 10000; } leaf { grid-row: 1; grid-column: span 10000; }"
	wide  = "grid-template-columns: 1000000%; " // ErrOver of 1000000px, nothing of none
	high  = "grid-template-rows: 1000000%; "
	half  = "content: 0px 536870912px;" // half of the greatest length high
)

func TestFaults(t *testing.T) { // P31.4: at which node, and which comes first
	for _, x := range []struct {
		s    string
		in   size
		node int
		e    api.Errno
	}{
		{over, in(5, 5), 0, api.ErrOver},
		{over, in(no, no), 0, api.ErrOver},
		{"grid { leaf { } " + over + " }", in(5, 5), 2, api.ErrOver},
		{"grid { " + limit + " }", in(5, 5), 0, api.ErrLimit},
		{"grid { leaf { } grid { leaf { } grid { " + limit + " } } }", in(5, 5), 4, api.ErrLimit},
		{"grid { " + full + " }", in(5, 5), 0, api.ErrFull},
		{"grid { leaf { } grid { " + full + " } }", in(no, no), 2, api.ErrFull},
		// Widths of the children ahead of the container's own, in their order.
		{"grid { " + limit + " leaf { } " + over + " }", in(5, 5), 2, api.ErrOver},
		{"grid { " + full + over + " }", in(5, 5), 3, api.ErrOver},
		{"grid { grid { " + limit + " } " + over + " }", in(5, 5), 1, api.ErrLimit},
		{"grid { grid { order: 1; " + limit + " } " + over + " }", in(5, 5), 2, api.ErrOver},
		{"grid { grid { " + limit + over + " } " + over + " }", in(5, 5), 2, api.ErrOver},
		{"grid { grid { leaf { } grid { " + full + " } } grid { " + limit + " } }", in(5, 5), 3, api.ErrFull},
		// All Widths, the first node's too, if nobody needs it, ahead of containers as they stand.
		{"grid { grid-template-columns: auto auto; leaf { content: 536870912px 0px / 536870912px 0px; } leaf { content: 1px 0px; } }", in(5, 5), 0, api.ErrOver},
		{"grid { " + wide + "leaf { } grid { " + limit + " } }", in(1000000, 5), 2, api.ErrLimit},
		{"grid { " + wide + "leaf { } }", in(1000000, 5), 0, api.ErrOver},
		{"grid { " + wide + "leaf { } }", in(no, no), 0, api.OK},
		{"leaf { content: 1073741824px 1073741824px / 0px 1px; }", in(5, 5), 0, api.ErrOver},
		// Containers as they stand, in the order of nodes, each with the Heights of its children, in their order.
		{"grid { grid { order: 1; " + high + " } grid { " + high + " } }", in(5, 2000000), 1, api.ErrOver},
		{"grid { grid { order: 1; " + wide + " } grid { " + wide + " } }", in(1000000, 5), 2, api.ErrOver},
		{"grid { grid { " + high + " } grid { " + wide + " } }", in(1000000, 2000000), 2, api.ErrOver},
		{"grid { " + high + "grid { " + wide + " } }", in(1000000, 1000000), 1, api.ErrOver},
		{"grid { " + wide + "grid { " + wide + " } }", in(1000000, 1000000), 0, api.ErrOver},
		{"grid { grid { grid { " + wide + " } } }", in(1000000, 5), 2, api.ErrOver},
		{"grid { grid { " + wide + "grid { " + wide + " } } }", in(1000000, 5), 1, api.ErrOver},
		// Used widths of all children ahead of their Heights.
		{"grid { grid { " + wide + " } leaf { margin-left: 1000000%; } }", in(1000000, 5), 0, api.ErrOver},
		{"grid { grid { " + wide + " } leaf { max-height: 1000000%; } }", in(1000000, 2000000), 1, api.ErrOver},
		// Steps of a container, each with its own.
		{"grid { grid-template-columns: 100%; row-gap: 1000000%; leaf { } }", in(5, 1000000), 0, api.ErrOver},
		{"grid { grid-template-columns: 1073741824px 1px; }", in(5, 5), 0, api.ErrOver},
		{"grid { grid-template-rows: 1073741824px 1px; leaf { } }", in(5, 5), 0, api.ErrOver},
		{"grid { leaf { width: 1073741824px; margin-left: 1px; } }", in(5, 5), 0, api.ErrOver},
		{"grid { leaf { height: 1073741824px; margin-top: 1px; } }", in(5, 5), 0, api.ErrOver},
		{"grid { leaf { } leaf { margin-left: 1000000%; } }", in(1000000, 5), 0, api.ErrOver},
		{"grid { leaf { } leaf { margin-top: 1000000%; } }", in(1000000, 5), 0, api.ErrOver},
		{"grid { leaf { } leaf { width: 1000000%; } }", in(1000000, 5), 0, api.ErrOver},
		{"grid { leaf { } leaf { max-height: 1000000%; } }", in(5, 1000000), 0, api.ErrOver},
		{"grid { leaf { } grid { leaf { } leaf { max-height: 1000000%; } } }", in(5, 2000000), 2, api.ErrOver},
		// Heights: of no definite height.
		{"grid { leaf { " + half + " } leaf { " + half + " } leaf { content: 1px 1px; } }", in(5, no), 0, api.ErrOver},
		{"grid { leaf { } grid { leaf { " + half + " } leaf { " + half + " } leaf { content: 1px 1px; } } }", in(5, 5), 2, api.ErrOver},
		{"grid { leaf { } grid { leaf { " + half + " } leaf { " + half + " } } }", in(5, 5), 0, api.OK},
		{"grid { leaf { } grid { leaf { " + half + " } leaf { " + half + " } } leaf { height: 1px; } }", in(5, no), 0, api.ErrOver},
	} {
		l := nodes(t, x.s)
		r, g, at, e := x.in.layout(l)
		if at != x.node || e != x.e || e != api.OK && (len(r) > 0 || len(g) > 0) || e == api.OK && len(r) != len(l) {
			t.Errorf("%s: %d, %d, %d rects", x.s, at, int(e), len(r))
		}
	}
}

func TestFaultsOfContent(t *testing.T) { // P31.2, P31.3: what fails of widths need not of heights
	for _, x := range []struct {
		s            string
		node         int
		widths, high api.Errno // of the first node, 5px wide
	}{
		{over, 0, api.ErrOver, api.ErrOver},
		{"grid { leaf { } " + over + " }", 2, api.ErrOver, api.ErrOver},
		{"grid { " + limit + " }", 0, api.ErrLimit, api.ErrLimit},
		{"grid { grid { " + full + " } }", 1, api.ErrFull, api.ErrFull},
		{"grid { grid-template-columns: auto auto; leaf { content: 536870912px 0px / 536870912px 0px; } leaf { content: 1px 0px; } }", 0, api.ErrOver, api.OK},
		{"grid { grid { grid-template-columns: auto auto; leaf { content: 536870912px 0px / 536870912px 0px; } leaf { content: 1px 0px; } } }", 1, api.ErrOver, api.ErrOver},
		{"grid { leaf { " + half + " } leaf { " + half + " } }", 0, api.OK, api.OK},
		{"grid { leaf { " + half + " } leaf { " + half + " } leaf { content: 1px 1px; } }", 0, api.OK, api.ErrOver},
		// Rows of a percentage are sized again, in their height.
		{"grid { grid-template-rows: 200%; leaf { " + half + " } }", 0, api.OK, api.OK},
		{"grid { grid-template-rows: 200.001%; leaf { " + half + " } }", 0, api.OK, api.ErrOver},
		{"grid { grid-template-rows: repeat(1, 1px minmax(300%, 1fr)); leaf { grid-row: 2; " + half + " } }", 0, api.OK, api.ErrOver},
		{"grid { grid-template-rows: minmax(auto, 300%); leaf { " + half + " } }", 0, api.OK, api.ErrOver},
		{"grid { grid-auto-rows: fit-content(300%); leaf { " + half + " } }", 0, api.OK, api.ErrOver},
		{"grid { grid-auto-rows: auto 300%; leaf { " + half + " } leaf { } }", 0, api.OK, api.ErrOver},
		{"grid { row-gap: 200%; leaf { " + half + " } }", 0, api.OK, api.OK},
		{"grid { row-gap: 200%; leaf { " + half + " } leaf { } }", 0, api.OK, api.ErrOver},
		{"grid { row-gap: 300%; leaf { " + half + " } }", 0, api.OK, api.ErrOver},
		{"grid { column-gap: 200%; leaf { " + half + " } leaf { } }", 0, api.OK, api.OK},
		// The used heights of children count for nothing.
		{"grid { leaf { height: 300%; } leaf { " + half + " } }", 0, api.OK, api.OK},
	} {
		l := nodes(t, x.s)
		if c, at, e := layout.Widths(l, 0); e != x.widths || e == api.OK && at != 0 || e != api.OK && (at != x.node || c != (api.Content{})) {
			t.Error(x.s, c, at, int(e))
		}
		if h, at, e := layout.Height(l, 0, 5*unit); e != x.high || e == api.OK && at != 0 || e != api.OK && (at != x.node || h != 0) {
			t.Error(x.s, h, at, int(e))
		}
	}
}

func TestHandedIn(t *testing.T) { // rules 4 and 8; answers are new memory
	spare := nodes(t, `grid { grid-template-areas: "a b" "c b"; grid-template-rows: 10px [x] 20px; grid-template-columns: [y z] 30px repeat(2, 40px [w]); grid-auto-rows: 1px 2px; leaf { order: 1; content: 1px 1px / 2px 2px; } leaf { } grid { leaf { } } leaf { } }`)
	l := spare[:5]
	same := deep(spare)
	g, _ := explicit.Grid(l[0].Style, 0, false, 0, false)
	grid := g
	for range 2 {
		r, laid, _, e := in(90, no).layout(l)
		if text(r) != "0 0 90 30, 70 0 40 10, 0 0 30 10, 30 0 40 10, 0 0 40 10" || e != api.OK {
			t.Error(text(r), int(e))
		}
		clear(r)
		for _, x := range laid {
			clear(x.Children)
			clear(x.Cells)
			for _, s := range []api.Side{x.Cols, x.Rows} {
				clear(s.Sizes)
				clear(s.Starts)
				clear(s.Tracks.List)
				clear(s.Tracks.Gone)
				clear(s.Tracks.Ahead)
			}
		}
		c, e := layout.Cells(l, 0, g)
		if e != api.OK || !slices.Equal(c, []api.Cell{cell(0, 0, 1, 1), cell(0, 1, 1, 1), cell(0, 2, 1, 1)}) {
			t.Error(c, int(e))
		}
		clear(c)
		layout.Widths(l, 0)
		layout.Height(l, 0, 900)
		if !document.Same(spare, same) || !slices.EqualFunc(g.ColNames, grid.ColNames, slices.Equal[[]string]) {
			t.Error(document.Print(spare))
		}
	}
}

func TestMost(t *testing.T) { // as many nodes as there may be, as deep as they may stand: it ends soon
	leaf := "leaf { content: 10px 3px / 5px 3px; } "
	for _, x := range []struct{ s, last string }{
		{"grid { " + strings.Repeat(leaf, api.MaxNodes-1) + "}", "0 12282 100 3"},
		{strings.Repeat("grid { ", api.MaxDepth-1) + leaf + strings.Repeat("}", api.MaxDepth-1), "0 0 100 3"},
		{"grid { " + strings.Repeat("grid { "+leaf+"} ", 2047) + "}", "0 0 100 3"},
		{"grid { " + strings.Repeat(strings.Repeat("grid { ", 30)+leaf+strings.Repeat("}", 30), 132) + "}", "0 0 100 3"},
		{"grid { grid-template: repeat(9000, 1px) / repeat(9999, 0px) 1fr; " + strings.Repeat("leaf { grid-area: -9002 / -2; } leaf { grid-area: -1 / -2; }", 2000) + "}", "0 9000 100 0"},
	} {
		r, _, at, e := in(100, no).layout(nodes(t, x.s))
		if e != api.OK || text(r[len(r)-1:]) != x.last {
			t.Errorf("%.100s: %s, %d, %d", x.s, text(r[max(len(r)-1, 0):]), at, int(e))
		}
	}
}
