package layout_test

import (
	"strings"
	"testing"

	"parterre/api"
	"parterre/document"
	"parterre/layout"
	"parterre/style"
)

const pair = "grid { grid-template-columns: auto auto; grid { leaf { content: 10px 5px; } } grid { leaf { content: 10px 5px; } } }"

func TestPlant(t *testing.T) { // P31.5
	for _, l := range wrongs(t) {
		if x, e := layout.Plant(l); x != nil || e != api.ErrArg {
			t.Error(l, x, int(e))
		}
	}
	for _, s := range []string{"leaf { }", "grid { }", pair} {
		l := nodes(t, s)
		x, e := layout.Plant(l)
		if e != api.OK || x == nil || !document.Same(x.Nodes(), l) || x.Worked() != 0 {
			t.Error(s, int(e))
		}
	}
}

func TestOwn(t *testing.T) { // P31.5: its own copy, of what is planted and of what is set; and none of it is handed out
	const s = `grid { grid-template-columns: [a b] 10px repeat(2, [c] 20px [d]); grid-template-areas: "x y"; grid-template-rows: [e] 3px; grid-auto-rows: 1px 2px; grid-auto-columns: 4px 5px; leaf { content: 1px 2px, 3px 4px / 5px 6px; } grid { leaf { } } }`
	l := nodes(t, s)
	same := deep(l)
	x, e := layout.Plant(l)
	if e != api.OK {
		t.Fatal(int(e))
	}
	spoil(l)
	spoil(x.Nodes())
	if !document.Same(x.Nodes(), same) {
		t.Error(document.Print(x.Nodes()))
	}
	for i := range same {
		one := deep(same[i : i+1])
		if e := x.Set(i, one[0].Style); e != api.OK {
			t.Error(i, int(e))
		}
		spoil(one)
	}
	spoil(x.Nodes())
	if !document.Same(x.Nodes(), same) {
		t.Error(document.Print(x.Nodes()))
	}
}

func TestNoTree(t *testing.T) { // P31.5, and rule 1: ErrNil goes ahead of ErrArg
	for _, x := range []*layout.Tree{nil, {}, new(layout.Tree)} {
		for _, i := range append(noSizes(), 0) {
			for _, n := range append(noSizes(), 5) {
				c, at, e := x.Widths(i)
				if c != (api.Content{}) || at != 0 || e != api.ErrNil {
					t.Error(c, at, int(e))
				}
				h, at, e := x.Height(i, n)
				if h != 0 || at != 0 || e != api.ErrNil {
					t.Error(h, at, int(e))
				}
				g, r, at, e := x.Stand(i, n, n)
				if !sameLaid(g, api.Laid{}) || len(r) > 0 || at != 0 || e != api.ErrNil {
					t.Error(g, r, at, int(e))
				}
				if e := x.Set(i, style.Default()); e != api.ErrNil {
					t.Error(int(e))
				}
				if e := x.Set(i, api.Style{}); e != api.ErrNil {
					t.Error(int(e))
				}
			}
		}
		if len(x.Nodes()) > 0 || x.Worked() != 0 {
			t.Error(x.Nodes(), x.Worked())
		}
	}
}

func TestTreeWrong(t *testing.T) { // P31.5: ErrArg
	x := plant(t, "grid { grid { "+limit+" } leaf { } }") // whatever would fail of it
	good := style.Default()
	for _, i := range append(noSizes(), 3, 4) {
		holdArg(t, x, i, 5, 5)
		if e := x.Set(i, good); e != api.ErrArg {
			t.Error(i, int(e))
		}
	}
	for _, n := range noSizes() {
		for i := range 3 {
			holdArg(t, x, i, n, n)
			g, r, at, e := x.Stand(i, 5, n)
			if !sameLaid(g, api.Laid{}) || len(r) > 0 || at != 0 || e != api.ErrArg {
				t.Error(n, g, r, at, int(e))
			}
			g, r, at, e = x.Stand(i, n, 5)
			if !sameLaid(g, api.Laid{}) || len(r) > 0 || at != 0 || e != api.ErrArg {
				t.Error(n, g, r, at, int(e))
			}
		}
	}
	if g, r, at, e := x.Stand(2, 5, 5); !sameLaid(g, api.Laid{}) || len(r) > 0 || at != 0 || e != api.ErrArg { // a leaf
		t.Error(g, r, at, int(e))
	}
	words := with(t, good, "content", "3px 4px")
	for i, fault := range []api.Errno{api.ErrArg, api.ErrArg, api.OK} {
		if e := x.Set(i, words); e != fault {
			t.Error(i, int(e))
		}
		for _, change := range []func(s *api.Style){
			func(s *api.Style) { *s = api.Style{} },
			func(s *api.Style) { s.Order = api.MaxOrder + 1 },
			func(s *api.Style) { s.Content = [][]api.Box{{}} },
			func(s *api.Style) { s.Width = api.Len{Kind: api.LenPx, N: -1} },
		} {
			s := good
			change(&s)
			if e := x.Set(i, s); e != api.ErrArg {
				t.Error(i, int(e))
			}
		}
	}
	if want := nodes(t, "grid { grid { "+limit+" } leaf { content: 3px 4px; } }"); !document.Same(x.Nodes(), want) || x.Worked() != 0 {
		t.Error(document.Print(x.Nodes()), x.Worked())
	}
	empty := good
	empty.Content = [][]api.Box{}
	if e := x.Set(1, empty); e != api.OK {
		t.Error(int(e))
	}
}

// holdArg holds that a place, or sizes, are none.
func holdArg(t *testing.T, x *layout.Tree, i, width, height int) {
	t.Helper()
	if i < 0 || i >= 3 {
		if c, at, e := x.Widths(i); c != (api.Content{}) || at != 0 || e != api.ErrArg {
			t.Error(i, c, at, int(e))
		}
	}
	if h, at, e := x.Height(i, width); h != 0 || at != 0 || e != api.ErrArg {
		t.Error(i, width, h, at, int(e))
	}
	if g, r, at, e := x.Stand(i, width, height); !sameLaid(g, api.Laid{}) || len(r) > 0 || at != 0 || e != api.ErrArg {
		t.Error(i, width, height, g, r, at, int(e))
	}
}

func TestStand(t *testing.T) { // P31.5
	x := plant(t, "grid { leaf { order: 1; } grid { grid-template-columns: 10px 1fr; leaf { order: 1; content: 3px 4px; } leaf { } } leaf { } }")
	g, r, at, e := x.Stand(0, 20*unit, 30*unit)
	if g.Node != 0 || g.Width != 20*unit || g.Height != 30*unit || text(r) != "0 0 20 12.671875, 0 12.671875 20 8.671875, 0 21.34375 20 8.65625" || at != 0 || e != api.OK {
		t.Error(g, text(r), at, int(e))
	}
	holdLaid(t, g, api.Laid{Width: 20 * unit, Height: 30 * unit, Children: []int{2, 5, 1}, Cells: []api.Cell{cell(0, 0, 1, 1), cell(1, 0, 1, 1), cell(2, 0, 1, 1)}})
	g, r, at, e = x.Stand(2, 50*unit, 7*unit)
	holdLaid(t, g, api.Laid{Node: 2, Width: 50 * unit, Height: 7 * unit, Children: []int{4, 3}, Cells: []api.Cell{cell(0, 0, 1, 1), cell(0, 1, 1, 1)}})
	holdSide(t, g.Cols, 0, "10 40", "0 10", "0 0")
	holdSide(t, g.Rows, 0, "7", "0", "0")
	if text(r) != "0 0 10 7, 10 0 40 7" || at != 0 || e != api.OK {
		t.Error(text(r), at, int(e))
	}
	// What was told is nobody else's.
	clear(r)
	clear(g.Children)
	clear(g.Cells)
	clear(g.Cols.Sizes)
	clear(g.Cols.Starts)
	clear(g.Cols.Tracks.List)
	g, r, at, e = x.Stand(2, 50*unit, 0)
	holdSide(t, g.Cols, 0, "10 40", "0 10", "0 0")
	if text(r) != "0 0 10 4, 10 0 40 4" || at != 0 || e != api.OK {
		t.Error(text(r), at, int(e))
	}
}

func TestStandFails(t *testing.T) { // P31.5: the error and its node; Widths come first, the container's own too
	for _, x := range []struct {
		s                      string
		i, width, height, node int // px
		e                      api.Errno
	}{
		{"grid { grid-template-columns: auto auto; leaf { content: 536870912px 0px / 536870912px 0px; } leaf { content: 1px 0px; } }", 0, 5, 5, 0, api.ErrOver},
		{"grid { " + wide + "grid { " + limit + " } }", 0, 1000000, 5, 1, api.ErrLimit},
		{"grid { " + wide + "leaf { } }", 0, 1000000, 5, 0, api.ErrOver},
		{"grid { " + wide + "leaf { } }", 0, 100, 5, 0, api.OK},
		{"grid { grid { " + full + " } grid { grid { " + limit + " } } }", 3 + 1, 5, 5, 5, api.ErrLimit},
		{"grid { grid { " + full + " } grid { leaf { } } }", 4, 5, 5, 0, api.OK}, // another's error is none of it
		{"grid { grid { " + high + "leaf { } } }", 0, 5, 2000000, 0, api.OK},     // what stands in a child is not laid out
		{"grid { grid { " + high + "leaf { } } }", 1, 5, 2000000, 1, api.ErrOver},
		{"grid { grid { " + wide + "leaf { } } }", 0, 1000000, 5, 1, api.ErrOver}, // but for its height
	} {
		tree := plant(t, x.s)
		for range 2 { // again, as it was
			g, r, at, e := tree.Stand(x.i, unit*x.width, unit*x.height)
			if at != x.node || e != x.e || e != api.OK && (len(r) > 0 || !sameLaid(g, api.Laid{})) {
				t.Error(x.s, x.i, at, int(e), g, r)
			}
		}
	}
}

func TestFaultsStay(t *testing.T) { // P31.5: errors are told again, without work, till a style is set
	x := plant(t, "grid { grid { "+wide+" } leaf { } }")
	for range 2 {
		if h, at, e := x.Height(0, 1000000*unit); h != 0 || at != 1 || e != api.ErrOver {
			t.Error(h, at, int(e))
		}
		if x.Worked() != 3 { // Widths of 1, Heights of 0 and 1
			t.Error(x.Worked())
		}
	}
	if h, at, e := x.Height(0, 5); h != 0 || at != 0 || e != api.OK || x.Worked() != 5 {
		t.Error(h, at, int(e), x.Worked())
	}
	if e := x.Set(1, style.Default()); e != api.OK {
		t.Error(int(e))
	}
	if h, at, e := x.Height(0, 1000000*unit); h != 0 || at != 0 || e != api.OK || x.Worked() != 8 {
		t.Error(h, at, int(e), x.Worked())
	}
}

// step is something asked of a tree, or set, and how often the grid of a container is worked out for it.
type step struct {
	ask  string
	i, n int // n is a width, in px
	more int
}

func TestWorked(t *testing.T) { // P31.5
	for _, x := range []struct {
		s     string
		steps []step
	}{
		{"leaf { content: 1px 1px; }", []step{{"widths", 0, 0, 0}, {"height", 0, 5, 0}}},
		{"grid { }", []step{{"widths", 0, 0, 1}, {"widths", 0, 0, 0}, {"height", 0, 5, 1}, {"height", 0, 5, 0}, {"height", 0, 0, 1}, {"height", 0, 0, 0}, {"stand", 0, 5, 1}, {"stand", 0, 5, 1}}},
		{"grid { }", []step{{"height", 0, 0, 1}, {"stand", 0, 0, 2}, {"widths", 0, 0, 0}}},
		// What is needed for something is worked out once, too: of Height the children's Widths and Heights; of Stand the Widths as well.
		{pair, []step{{"height", 0, 100, 5}, {"height", 0, 100, 0}, {"height", 1, 50, 0}, {"height", 3, 50, 0}, {"height", 3, 51, 1}, {"widths", 1, 0, 0}, {"widths", 0, 0, 1}, {"stand", 0, 100, 1}, {"height", 0, 102, 2}}},
		{pair, []step{{"stand", 0, 100, 6}, {"stand", 0, 100, 1}, {"stand", 1, 100, 1}, {"stand", 1, 70, 1}, {"stand", 0, 80, 3}}},
		{pair, []step{{"widths", 0, 0, 3}, {"widths", 1, 0, 0}, {"height", 0, 100, 3}, {"height", 2, 3, 0}, {"widths", 4, 0, 0}}},
		// Set: what hangs on that node alone is worked out again.
		{pair, []step{{"stand", 0, 100, 6}, {"set", 2, 0, 0}, {"widths", 0, 0, 2}, {"height", 3, 50, 0}, {"height", 0, 100, 2}, {"height", 1, 50, 0}, {"stand", 0, 100, 1}}},
		{pair, []step{{"stand", 0, 100, 6}, {"height", 3, 70, 1}, {"set", 1, 0, 0}, {"height", 3, 70, 0}, {"stand", 0, 100, 4}}},
		{pair, []step{{"stand", 0, 100, 6}, {"height", 0, 100, 1}, {"set", 0, 0, 0}, {"height", 1, 50, 0}, {"widths", 1, 0, 0}, {"widths", 3, 0, 0}, {"widths", 0, 0, 1}}},
		{pair, []step{{"height", 1, 9, 1}, {"height", 1, 8, 1}, {"height", 3, 9, 1}, {"set", 4, 0, 0}, {"height", 1, 9, 0}, {"height", 1, 8, 0}, {"height", 3, 9, 1}}},
		{"grid { grid { grid { leaf { } } grid { } } grid { } }", []step{{"widths", 0, 0, 5}, {"set", 3, 0, 0}, {"widths", 4, 0, 0}, {"widths", 5, 0, 0}, {"widths", 2, 0, 1}, {"widths", 1, 0, 1}, {"widths", 0, 0, 1}, {"set", 5, 0, 0}, {"widths", 1, 0, 0}, {"widths", 0, 0, 2}}},
		// What goes wrong ahead of a grid is no work.
		{"grid { " + over + " }", []step{{"widths", 0, 0, 0}, {"height", 0, 5, 0}, {"stand", 0, 5, 0}}},
	} {
		tree := plant(t, x.s)
		for k, s := range x.steps {
			ahead := tree.Worked()
			s.on(t, tree)
			if more := tree.Worked() - ahead; more != s.more {
				t.Error(x.s, k, s, more)
			}
		}
	}
}

// on asks a tree, or sets a style as it was.
func (s step) on(t *testing.T, x *layout.Tree) {
	switch s.ask {
	case "widths":
		x.Widths(s.i)
	case "height":
		x.Height(s.i, s.n*unit)
	case "stand":
		x.Stand(s.i, s.n*unit, 9*unit)
	case "set":
		if e := x.Set(s.i, x.Nodes()[s.i].Style); e != api.OK {
			t.Error(s, int(e))
		}
	}
}

func TestSet(t *testing.T) { // P31.5, P31.6
	x := plant(t, pair)
	hold := func(want string) {
		t.Helper()
		_, r, at, e := x.Stand(0, 100*unit, 40*unit)
		if text(r) != want || at != 0 || e != api.OK {
			t.Error(text(r), at, int(e))
		}
	}
	set := func(i int, properties ...string) {
		t.Helper()
		if e := x.Set(i, with(t, x.Nodes()[i].Style, properties...)); e != api.OK {
			t.Error(i, int(e))
		}
	}
	hold("0 0 50 40, 50 0 50 40")
	set(2, "content", "30px 7px")
	hold("0 0 60 40, 60 0 40 40")
	set(3, "order", "-1")
	hold("0 0 40 40, 40 0 60 40")
	set(0, "align-items", "start", "grid-template-columns", "10px 1fr")
	hold("0 0 10 5, 10 0 90 7")
	set(1, "width", "20px")
	hold("0 0 10 5, 10 0 20 7")
	if h, _, e := x.Height(0, 100*unit); h != 7*unit || e != api.OK {
		t.Error(h, int(e))
	}
	set(2, "content", "none")
	if h, _, e := x.Height(0, 100*unit); h != 5*unit || e != api.OK {
		t.Error(h, int(e))
	}
	want := "grid { align-items: start; grid-template-columns: 10px 1fr; grid { width: 20px; leaf { } } grid { order: -1; leaf { content: 10px 5px; } } }"
	if !document.Same(x.Nodes(), nodes(t, want)) {
		t.Error(document.Print(x.Nodes()))
	}
}

func TestTreeMost(t *testing.T) { // P31.5: of many nodes, a change costs little
	x := plant(t, "grid { grid-template-columns: repeat(8, 1fr); "+strings.Repeat("grid { leaf { content: 9px 3px; } } ", 1000)+"}")
	if h, _, e := x.Height(0, 800*unit); h != 125*3*unit || e != api.OK || x.Worked() != 2001 {
		t.Error(h, int(e), x.Worked())
	}
	for i := range 100 {
		s := with(t, x.Nodes()[2].Style, "content", "9px 4px")
		if e := x.Set(2*(i+1), s); e != api.OK {
			t.Fatal(int(e))
		}
		rows := 1 + i/8
		if h, _, e := x.Height(0, 800*unit); h != (125*3+rows)*unit || e != api.OK || x.Worked() != 2001+3*(i+1) {
			t.Fatal(i, h, int(e), x.Worked())
		}
	}
}
