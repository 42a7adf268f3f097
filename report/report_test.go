package report_test

import (
	"math"
	"math/rand/v2"
	"slices"
	"strconv"
	"strings"
	"testing"

	"parterre/api"
	"parterre/document"
	"parterre/report"
)

func TestTree(t *testing.T) { // P32.1
	for _, x := range []struct {
		s    string
		r    []api.Rect
		want string
	}{
		{"leaf { }", []api.Rect{rect(0, 0, 0, 0)}, "leaf 0 0 0 0\n"},
		{"grid { }", []api.Rect{rect(1, -1, 64, 96)}, "grid 0.015625 -0.015625 1 1.5\n"},
		// The document's example.
		{"grid { leaf { } }", []api.Rect{rect(0, 0, 300*unit, 20*unit), rect(0, 0, 100*unit, 20*unit)}, "grid 0 0 300 20\n  leaf 0 0 100 20\n"},
		{"grid { grid { leaf { } grid { } } leaf { } }", []api.Rect{rect(0, 0, 640, 64), rect(64, 128, 192, 256), rect(1, 2, 3, 4), rect(-64, -128, -192, -256), rect(top, -top, top, -top)},
			"grid 0 0 10 1\n  grid 1 2 3 4\n    leaf 0.015625 0.03125 0.046875 0.0625\n    grid -1 -2 -3 -4\n  leaf 1073741824 -1073741824 1073741824 -1073741824\n"},
	} {
		if s := report.Tree(nodes(t, x.s), x.r); s != x.want {
			t.Errorf("%s:\n%s", x.s, s)
		}
	}
}

func TestTreeWrong(t *testing.T) { // P32.1
	good, r := "grid { leaf { } grid { } }", []api.Rect{rect(1, 2, 3, 4), rect(5, 6, 7, 8), rect(9, 10, 11, 12)}
	nothing := func(l []api.Node, r []api.Rect) {
		t.Helper()
		if s := report.Tree(l, r); s != "" {
			t.Error(l, r, s)
		}
	}
	l := nodes(t, good)
	if report.Tree(l, r) == "" {
		t.Error(good)
	}
	for _, n := range []int{0, 1, 2} {
		nothing(l, r[:n])
	}
	nothing(l, append(slices.Clone(r), rect(0, 0, 0, 0)))
	for i := range r {
		for _, n := range noLengths() {
			for k := range 4 {
				wrong := slices.Clone(r)
				*[]*int{&wrong[i].X, &wrong[i].Y, &wrong[i].W, &wrong[i].H}[k] = n
				nothing(l, wrong)
			}
		}
	}
	nothing(nil, nil)
	nothing([]api.Node{}, []api.Rect{})
	nothing(nil, r)
	for _, change := range []func(l []api.Node){
		func(l []api.Node) { l[0].Parent = 0 },
		func(l []api.Node) { l[2].Parent = 1 },
		func(l []api.Node) { l[1].Kind = 0 },
		func(l []api.Node) { l[1].Style = api.Style{} },
		func(l []api.Node) { l[2].Style.Content = [][]api.Box{{{W: 1, H: 1}}} },
	} {
		wrong := nodes(t, good)
		change(wrong)
		nothing(wrong, r)
		nothing(wrong, nil)
	}
}

func TestTracks(t *testing.T) { // P32.2
	for _, x := range []struct {
		s    api.Side
		want string
	}{
		{api.Side{}, ""},
		{side(nil, nil), ""},
		{side([]int{0}, []int{0}), "0@0"},
		{side([]int{0}, []int{0}, true), "0@0-"},
		{side([]int{64, 1, 0}, []int{-64, 0, 96}, false, true), "1@-1 0.015625@0- 0@1.5"},
		{side([]int{top, -top}, []int{-top, top}, true, true), "1073741824@-1073741824- -1073741824@1073741824-"},
	} {
		if s := report.Tracks(x.s); s != x.want {
			t.Error(x.s, s)
		}
		x.s.Tracks.Low, x.s.Tracks.Ahead = 9, []int{math.MinInt} // nothing is asked of these
		if s := report.Tracks(x.s); s != x.want {
			t.Error(x.s, s)
		}
	}
}

func TestTracksWrong(t *testing.T) { // P32.2
	for _, change := range []func(s *api.Side){
		func(s *api.Side) { s.Sizes = s.Sizes[:1] },
		func(s *api.Side) { s.Starts = s.Starts[:1] },
		func(s *api.Side) { s.Tracks.Gone = s.Tracks.Gone[:1] },
		func(s *api.Side) { s.Tracks.List = s.Tracks.List[:1] },
		func(s *api.Side) { s.Sizes = append(s.Sizes, 0) },
		func(s *api.Side) { s.Starts = append(s.Starts, 0) },
		func(s *api.Side) { s.Tracks.Gone = append(s.Tracks.Gone, false) },
		func(s *api.Side) { s.Tracks.List = append(s.Tracks.List, api.Track{}) },
		func(s *api.Side) { s.Sizes = nil },
		func(s *api.Side) { s.Starts = nil },
		func(s *api.Side) { s.Tracks.Gone = nil },
		func(s *api.Side) { s.Tracks.List = nil },
	} {
		s := side([]int{1, 2}, []int{3, 4})
		change(&s)
		if text := report.Tracks(s); text != "" {
			t.Error(s, text)
		}
	}
	for _, n := range noLengths() {
		for i := range 2 {
			a, b := side([]int{1, 2}, []int{3, 4}), side([]int{1, 2}, []int{3, 4})
			a.Sizes[i], b.Starts[i] = n, n
			if report.Tracks(a) != "" || report.Tracks(b) != "" {
				t.Error(report.Tracks(a), report.Tracks(b))
			}
		}
	}
}

func TestGrids(t *testing.T) { // P32.2
	one := api.Laid{Node: 3, Width: 64, Height: 96, Children: []int{5, 4}, Cells: []api.Cell{{Row: -1, Col: 2, Rows: 3, Cols: 4}, {Row: 5, Col: -6, Rows: 7, Cols: 8}},
		Cols: side([]int{64, 0}, []int{0, 64}, false, true), Rows: side([]int{32}, []int{16})}
	const text = "grid 3 1 1.5\ncolumns 1@0 0@1-\nrows 0.5@0.25\nchild 5 -1 2 3 4\nchild 4 5 -6 7 8\n"
	with := func(change func(g *api.Laid)) []api.Laid {
		g := one
		change(&g)
		return []api.Laid{g}
	}
	for _, x := range []struct {
		l    []api.Laid
		want string
	}{
		{nil, ""},
		{[]api.Laid{}, ""},
		{[]api.Laid{one}, text},
		{[]api.Laid{one, {}, one}, text + "grid 0 0 0\ncolumns \nrows \n" + text},
		// Children and cells as far as both are there.
		{with(func(g *api.Laid) { g.Children = g.Children[:1] }), strings.Replace(text, "child 4 5 -6 7 8\n", "", 1)},
		{with(func(g *api.Laid) { g.Cells = g.Cells[:1] }), strings.Replace(text, "child 4 5 -6 7 8\n", "", 1)},
		{with(func(g *api.Laid) { g.Cells = nil }), text[:strings.Index(text, "child")]},
		{with(func(g *api.Laid) { g.Children = nil }), text[:strings.Index(text, "child")]},
		// A text of nothing leaves nothing behind its blank.
		{with(func(g *api.Laid) { g.Node = top + 1 }), strings.Replace(text, "grid 3", "grid ", 1)},
		{with(func(g *api.Laid) { g.Node = -top }), strings.Replace(text, "grid 3", "grid -68719476736", 1)},
		{with(func(g *api.Laid) { g.Width = math.MinInt }), strings.Replace(text, "3 1 1.5", "3  1.5", 1)},
		{with(func(g *api.Laid) { g.Height = math.MaxInt }), strings.Replace(text, "3 1 1.5", "3 1 ", 1)},
		{with(func(g *api.Laid) { g.Cols.Sizes = nil }), strings.Replace(text, "columns 1@0 0@1-", "columns ", 1)},
		{with(func(g *api.Laid) { g.Rows.Starts = []int{math.MaxInt} }), strings.Replace(text, "rows 0.5@0.25", "rows ", 1)},
		{with(func(g *api.Laid) { g.Children = []int{top + 1, -top - 1} }), strings.Replace(strings.Replace(text, "child 5", "child ", 1), "child 4", "child ", 1)},
		{with(func(g *api.Laid) {
			g.Cells = []api.Cell{{Row: top + 1, Col: math.MinInt, Rows: math.MaxInt, Cols: -top - 1}}
		}), text[:strings.Index(text, "child")] + "child 5    \n"},
	} {
		if s := report.Grids(x.l); s != x.want {
			t.Errorf("%v:\n%s", x.l, s)
		}
	}
}

func TestRects(t *testing.T) { // P32.3
	for _, x := range []struct {
		s    string
		want []api.Rect
	}{
		{"", nil}, // no lines
		{"grid 0 0 0 0\n", []api.Rect{{}}},
		{"leaf 0 0 0 0\n", []api.Rect{{}}},
		{" leaf 1 -2 0.015625 1.5\n", []api.Rect{rect(64, -128, 1, 96)}},
		{"grid 1073741824 -1073741824 -1 -0.5\n     leaf 1 1 1 1\n   grid 2 2 2 2\n", []api.Rect{rect(top, -top, -64, -32), rect(64, 64, 64, 64), rect(128, 128, 128, 128)}},
		{strings.Repeat(" ", 1<<20) + "leaf 1 1 1 1\n", []api.Rect{rect(64, 64, 64, 64)}},
		{strings.Repeat("leaf 1 1 1 1\n", 5000), slices.Repeat([]api.Rect{rect(64, 64, 64, 64)}, 5000)}, // more than there may be nodes
	} {
		if l, is := report.Rects(x.s); !is || !slices.Equal(l, x.want) {
			t.Errorf("%.60q: %d, %v", x.s, len(l), is)
		}
	}
}

func TestRectsWrong(t *testing.T) { // P32.3
	const good = "leaf 1 2 3 4\n"
	for _, s := range []string{
		"\n", " \n", "x", "leaf 1 2 3 4", "leaf 1 2 3 4\r\n", "leaf 1 2 3\n", "leaf 1 2 3 \n", "leaf 1 2 3 4 \n", "leaf 1 2 3 4 5\n", "leaf\n", "leaf \n",
		"leaf  1 2 3 4\n", "leaf 1  2 3 4\n", "leaf 1 2 3  4\n", "leaf\t1 2 3 4\n", "\tleaf 1 2 3 4\n", "leaf1 2 3 4\n", "1 2 3 4\n", " 1 2 3 4\n",
		"Leaf 1 2 3 4\n", "GRID 1 2 3 4\n", "box 1 2 3 4\n", "leafs 1 2 3 4\n", "lea 1 2 3 4\n", "leaf leaf 1 2 3 4\n", "leaf grid 2 3 4\n",
		// Numbers that no text of a length is.
		"leaf 01 2 3 4\n", "leaf 1 +2 3 4\n", "leaf 1 2 3.0 4\n", "leaf 1 2 3 -0\n", "leaf 1 2 3 1e1\n", "leaf .5 2 3 4\n", "leaf 1 2 3 1.\n", "leaf 0.01 2 3 4\n", "leaf 1 2 3 0.0156250\n",
		"leaf 1073741825 2 3 4\n", "leaf 1 2 3 -1073741824.015625\n", "leaf 1 2 3 4px\n", "leaf 1 2 3 x\n", "leaf 1 2 3 0x1\n", "leaf 1 2 3 " + strings.Repeat("1", 400) + "\n", "leaf 1 2 3 \x00\n", "leaf 1,2 3 4 5\n",
	} {
		for _, x := range []string{s, good + s, s + good, good + s + good} {
			if l, is := report.Rects(x); is || len(l) > 0 {
				t.Errorf("%.60q: %v", x, l)
			}
		}
	}
}

func TestFollows(t *testing.T) { // P32.4, P32.5: and each text but these is no Tree's
	d := rand.New(rand.NewPCG(32, 1))
	for range 3000 {
		text := tree(d, 6)
		list := nodes(t, text)
		r := make([]api.Rect, len(list))
		for i := range r {
			for _, n := range []*int{&r[i].X, &r[i].Y, &r[i].W, &r[i].H} {
				*n = number(d)
			}
		}
		s := report.Tree(list, r)
		if back, is := report.Rects(s); !is || !slices.Equal(back, r) || strings.Count(s, "\n") != len(list) || !strings.HasSuffix(s, "\n") {
			t.Fatalf("%s\n%s", text, s)
		}
		at := d.IntN(len(s))
		other := s[:at] + string("0123456789.- \nglx"[d.IntN(17)]) + s[at+1:]
		if back, is := report.Rects(other); is && !isText(other, back) || !is && len(back) > 0 {
			t.Fatalf("%q: %v", other, back)
		}
	}
}

// isText writes rectangles as they stand in a text, and holds them against it, blanks at the beginning of lines aside.
func isText(s string, l []api.Rect) bool {
	var lines []string
	for _, line := range strings.Split(strings.TrimSuffix(s, "\n"), "\n") {
		lines = append(lines, strings.TrimLeft(line, " "))
	}
	if len(lines) != len(l) {
		return false
	}
	for i, r := range l {
		var words []string
		for _, n := range []int{r.X, r.Y, r.W, r.H} {
			words = append(words, strconv.FormatFloat(float64(n)/unit, 'f', -1, 64))
		}
		if rest := strings.Join(words, " "); lines[i] != "grid "+rest && lines[i] != "leaf "+rest {
			return false
		}
	}
	return true
}

// tree is a document by chance, of so many levels at most.
func tree(d *rand.Rand, levels int) string {
	if levels == 1 || d.IntN(3) == 0 {
		return "leaf { }"
	}
	s := "grid { "
	for d.IntN(3) > 0 {
		s += tree(d, levels-1)
	}
	return s + "}"
}

func number(d *rand.Rand) int {
	switch d.IntN(5) {
	case 0:
		return []int{top, -top, 0, 1, -1}[d.IntN(5)]
	case 1:
		return d.IntN(2*top+1) - top
	}
	return unit * (d.IntN(900) - 100)
}

func TestHandedIn(t *testing.T) { // rules 4 and 8
	l := nodes(t, "grid { leaf { } leaf { } }")
	same := nodes(t, document.Print(l))
	spare := []api.Rect{rect(1, 2, 3, 4), rect(5, 6, 7, 8), rect(9, 10, 11, 12), rect(13, 14, 15, 16)}
	rects := slices.Clone(spare)
	for range 2 {
		if s := report.Tree(l, spare[:3]); strings.Count(s, "\n") != 3 {
			t.Error(s)
		}
		if s := report.Tree(l, spare[:2]); s != "" {
			t.Error(s)
		}
	}
	if !document.Same(l, same) || !slices.Equal(spare, rects) {
		t.Error(l, spare)
	}
	sizes, starts := []int{1, 2, 3}, []int{4, 5, 6}
	s := side(sizes[:2], starts[:2], true)
	children, cells := []int{1, 2, 3}, []api.Cell{{Row: 1}, {Row: 2}, {Row: 3}}
	g := []api.Laid{{Children: children[:2], Cells: cells[:1], Cols: s, Rows: s}, {Node: 9}}
	for range 2 {
		if s := report.Grids(g[:1]); s != "grid 0 0 0\ncolumns 0.015625@0.0625- 0.03125@0.078125\nrows 0.015625@0.0625- 0.03125@0.078125\nchild 1 1 0 0 0\n" {
			t.Error(s)
		}
	}
	if !slices.Equal(sizes, []int{1, 2, 3}) || !slices.Equal(starts, []int{4, 5, 6}) || !slices.Equal(children, []int{1, 2, 3}) || cells[2].Row != 3 || g[1].Node != 9 {
		t.Error(sizes, starts, children, cells, g)
	}
}
