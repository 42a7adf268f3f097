package document_test

import (
	"math"
	"math/rand/v2"
	"slices"
	"strings"
	"testing"

	"parterre/api"
	"parterre/document"
	"parterre/style"
)

func TestGood(t *testing.T) { // P12.3
	none := style.Default()
	for _, l := range [][]api.Node{
		{grid(-1, none)}, {leaf(-1, none)}, {grid(-1, none), leaf(0, none)}, {grid(-1, none), leaf(0, none), leaf(0, none)},
		{grid(-1, none), grid(0, none), leaf(1, none), leaf(0, none)}, grids(-1, 0, 1, 2, 1, 0, 5, 6, 0), {leaf(-1, with(t, "content", "1px 1px"))},
	} {
		if !document.Good(l) {
			t.Errorf("not good: %+v", l)
		}
	}
	if document.Good(nil) || document.Good([]api.Node{}) {
		t.Error("no nodes are good")
	}
}

func TestGoodParents(t *testing.T) { // P12.3: nodes that don't stand where they should
	none := style.Default()
	for _, l := range [][]api.Node{
		grids(0), grids(1), grids(-2), grids(math.MinInt), grids(math.MaxInt), // the first one's
		grids(-1, -1), grids(-1, 0, -1), grids(-1, -2), grids(-1, math.MinInt), // in none
		grids(-1, 1), grids(-1, 2), grids(-1, 0, 2), grids(-1, 0, 3), grids(-1, math.MaxInt), grids(-1, 2, 0), // not ahead
		grids(-1, 0, 0, 1), grids(-1, 0, 1, 0, 1), grids(-1, 0, 1, 0, 2), // neither the node ahead nor above it
		{leaf(-1, none), leaf(0, none)}, {grid(-1, none), leaf(0, none), leaf(1, none)}, {leaf(-1, none), grid(0, none), leaf(1, none)}, // in a leaf
	} {
		if document.Good(l) || document.Print(l) != "" {
			t.Errorf("good: %+v", l)
		}
	}
}

func TestGoodKinds(t *testing.T) { // P12.3
	for _, kind := range []int{math.MinInt, -1, 0, 3, 4, math.MaxInt} {
		l := grids(-1, 0, 0)
		for i := range l {
			wrong := slices.Clone(l)
			wrong[i].Kind = kind
			if document.Good(wrong) || document.Print(wrong) != "" || !document.Good(l) {
				t.Errorf("%d of node %d", kind, i)
			}
		}
	}
}

func TestGoodStyles(t *testing.T) { // P12.3
	wrong := style.Default()
	wrong.Width = api.Len{Kind: api.LenNone}
	for i := range 3 {
		for _, kind := range []int{api.NodeGrid, api.NodeLeaf} {
			l := grids(-1, 0, 0)
			if i > 0 {
				l[i].Kind = kind
			}
			if !document.Good(l) {
				t.Error(i, kind)
			}
			for _, s := range []api.Style{wrong, {}} {
				l[i].Style = s
				if document.Good(l) || document.Print(l) != "" {
					t.Error(i, kind)
				}
			}
		}
	}
}

func TestGoodContent(t *testing.T) { // P12.3: a grid has none
	l := grids(-1, 0)
	for i := range l {
		for _, empty := range [][][]api.Box{nil, {}} {
			l[i].Style.Content = empty
			if !document.Good(l) {
				t.Error(i)
			}
		}
		l[i].Style = with(t, "content", "0 0")
		if document.Good(l) || document.Print(l) != "" {
			t.Error(i)
		}
		l[i].Kind = api.NodeLeaf
		if !document.Good(l[i:i+1]) != (i == 1) { // the second one alone has a parent that is none
			t.Error(i)
		}
		l[i] = grids(i - 1)[0]
	}
}

func TestGoodLimits(t *testing.T) { // P12.3: MaxDepth and MaxNodes, and one more
	var chain []int
	for i := range api.MaxDepth {
		chain = append(chain, i-1)
	}
	if l := grids(chain...); !document.Good(l) || document.Print(l) == "" || document.Good(append(l, grids(api.MaxDepth-1)...)) {
		t.Error("depth")
	}
	if l := grids(append(slices.Clone(chain), api.MaxDepth-2, 0)...); !document.Good(l) {
		t.Error("beside the deepest")
	}
	if l := grids(append(slices.Clone(chain), 0, api.MaxDepth)...); !document.Good(l) {
		t.Error("behind the deepest")
	}
	if l := grids(append(slices.Clone(chain), api.MaxDepth-2, api.MaxDepth)...); document.Good(l) || document.Print(l) != "" {
		t.Error("deeper behind the deepest")
	}
	wide := grids(append([]int{-1}, make([]int, api.MaxNodes-1)...)...)
	if len(wide) != api.MaxNodes || !document.Good(wide) || document.Good(append(slices.Clone(wide), grids(0)...)) || document.Print(append(wide, grids(0)...)) != "" {
		t.Error("nodes")
	}
}

// isTree asks of nodes whether each stands as the document says, with no more than their kinds and parents.
func isTree(l []api.Node) bool {
	for i, n := range l {
		if n.Kind != api.NodeGrid && n.Kind != api.NodeLeaf || (n.Parent == -1) != (i == 0) {
			return false
		}
		above := i - 1
		for above >= 0 && above != n.Parent {
			above = l[above].Parent
		}
		if i > 0 && (above < 0 || l[above].Kind != api.NodeGrid) {
			return false
		}
	}
	return len(l) > 0
}

func TestGoodSmall(t *testing.T) { // P12.3: all lists of three nodes, and some of more
	r := rand.New(rand.NewPCG(12, 3))
	found := [2]int{}
	ask := func(l []api.Node) {
		good := isTree(l)
		if document.Good(l) != good {
			t.Fatalf("good is not %v: %+v", good, l)
		}
		if good {
			found[1]++
		} else {
			found[0]++
		}
	}
	l := grids(0, 0, 0)
	for n := range 15 * 15 * 15 {
		for i, rest := 0, n; i < 3; i, rest = i+1, rest/15 {
			l[i].Kind, l[i].Parent = rest%3+1, rest%15/3-1
		}
		ask(l)
	}
	for range 3000 {
		l := grids(make([]int, 4+r.IntN(5))...)
		for i := range l {
			l[i].Kind = 1 + r.IntN(6)/5
			l[i].Parent = max(i-1-r.IntN(3), min(i-1, 0))
		}
		ask(l)
	}
	if found[0] < 1000 || found[1] < 200 {
		t.Error(found)
	}
}

func TestSame(t *testing.T) { // P12.3
	text := "grid { width: 1px; leaf { content: 1px 1px; } grid { grid-template-rows: 1px; leaf { } } }"
	l := parsed(t, text)
	if !document.Same(l, l) || !document.Same(l, parsed(t, text)) || !document.Same(nil, []api.Node{}) || !document.Same([]api.Node{{}}, []api.Node{{}}) {
		t.Error("not the same")
	}
	if document.Same(l, nil) || document.Same(nil, l) || document.Same(l, l[:3]) || document.Same(l[:3], l) {
		t.Error("the same, but longer")
	}
	for i := range l {
		for _, change := range []func(n *api.Node){
			func(n *api.Node) { n.Kind++ },
			func(n *api.Node) { n.Parent++ },
			func(n *api.Node) { n.Parent = -5 },
			func(n *api.Node) { n.Style.Order++ },
			func(n *api.Node) { n.Style.Rows = append(slices.Clone(n.Style.Rows), api.Piece{}) },
			func(n *api.Node) { n.Style.Margin[3].N++ },
			func(n *api.Node) { n.Style.Content = [][]api.Box{{}} },
		} {
			other := slices.Clone(l)
			change(&other[i])
			if document.Same(l, other) || document.Same(other, l) {
				t.Errorf("node %d: the same as %+v", i, other[i])
			}
		}
	}
	empty := parsed(t, text)
	empty[3].Style.Rows, empty[3].Style.Content, empty[3].Style.Areas = []api.Piece{}, [][]api.Box{}, [][]string{}
	if !document.Same(l, empty) || !document.Good(empty) || document.Print(empty) != document.Print(l) {
		t.Error("empty lists")
	}
}

// prints asks for the text of nodes, byte by byte.
func prints(t *testing.T, want string, l ...api.Node) {
	t.Helper()
	if s := document.Print(l); s != want {
		t.Errorf("%q, not %q", s, want)
	}
}

func TestPrint(t *testing.T) { // P12.2
	none := style.Default()
	prints(t, "")
	prints(t, "grid {\n}\n", grid(-1, none))
	prints(t, "leaf {\n}\n", leaf(-1, none))
	prints(t, "leaf {\n  width: 1.5px;\n}\n", leaf(-1, with(t, "width", "1.5px")))
	prints(t, "grid {\n  leaf {\n  }\n}\n", grid(-1, none), leaf(0, none))
	prints(t, "grid {\n  order: 1;\n  grid {\n    order: 2;\n    grid {\n      order: 3;\n      leaf {\n        order: 4;\n      }\n    }\n    leaf {\n    }\n  }\n  leaf {\n    order: -5;\n  }\n}\n",
		grid(-1, with(t, "order", "1")), grid(0, with(t, "order", "2")), grid(1, with(t, "order", "3")), leaf(2, with(t, "order", "4")), leaf(1, none), leaf(0, with(t, "order", "-5")))
	prints(t, "leaf {\n  grid-row-start: \\31 a\\ b;\n  grid-row-end: \\31 a\\ b;\n}\n", leaf(-1, with(t, "grid-row", `\31 a\ b`)))
}

func TestPrintProperties(t *testing.T) { // P12.2: all of them in their order, and none that is as at first
	texts := []string{
		"[a] 1px", "1fr 2fr", `"a b"`, "1px 2px", "fit-content(3px)", "column dense", "1px", "2%", "start", "space-evenly", "end", "center", "stretch", "normal",
		"a", "2", "span 3", "-1 b", "-7", "4px", "5%", "min-content", "max-content", "6px", "7%", "-8px", "auto", "-9%", "10px", "1px 2px, 3px 4px / 5px 6px",
	}
	var all []string
	want := "leaf {\n"
	for i, name := range style.Names() {
		prints(t, "leaf {\n  "+name+": "+texts[i]+";\n}\n", leaf(-1, with(t, name, texts[i])))
		prints(t, "leaf {\n}\n", leaf(-1, with(t, name, texts[i], name, style.Text(style.Default(), name))))
		all = append([]string{name, texts[i]}, all...) // the order in which they were said does not matter
		want += "  " + name + ": " + texts[i] + ";\n"
	}
	prints(t, want+"}\n", leaf(-1, with(t, all...)))
	if strings.Count(want, "\n") != 31 {
		t.Error(want)
	}
}

func TestPrintKeepsItsNodes(t *testing.T) { // DOC.md, rule 4
	text := `grid { grid-template: "a b" / 1fr 2fr; leaf { grid-area: a; content: 1px 1px; } }`
	l := parsed(t, text)
	first := document.Print(l)
	if document.Print(l) != first || !document.Good(l) || !document.Same(l, parsed(t, text)) {
		t.Error("changed")
	}
}
