package arena_test

import (
	"math"
	"math/rand/v2"
	"slices"
	"strings"
	"testing"

	"parterre/api"
	"parterre/arena"
	"parterre/document"
	"parterre/style"
)

// parsed tells the nodes of a document.
func parsed(t *testing.T, s string) []api.Node {
	t.Helper()
	l, n, e := document.Parse([]byte(s))
	if e != api.OK {
		t.Fatalf("%.80q: %d, %d", s, n, int(e))
	}
	return l
}

// grids tells grids of plain styles that stand in those parents.
func grids(parents ...int) []api.Node {
	var l []api.Node
	for _, parent := range parents {
		l = append(l, api.Node{Kind: api.NodeGrid, Parent: parent, Style: style.Default()})
	}
	return l
}

// ordered tells a grid with leaves of those orders in it.
func ordered(orders ...int) []api.Node {
	l := grids(-1)
	for _, order := range orders {
		leaf := api.Node{Kind: api.NodeLeaf, Style: style.Default()}
		leaf.Style.Order = order
		l = append(l, leaf)
	}
	return l
}

// chain tells grids, each in the one ahead of it.
func chain(n int) []api.Node {
	l := grids(-1)
	for len(l) < n {
		l = append(l, grids(len(l)-1)...)
	}
	return l
}

// flat tells a grid with leaves in it, so many nodes together.
func flat(n int) []api.Node { return ordered(make([]int, n-1)...) }

// noPlaces are places that n nodes don't have.
func noPlaces(n int) []int {
	return []int{math.MinInt, math.MinInt + 1, -api.MaxNodes, -2, -1, n, n + 1, n + api.MaxNodes, math.MaxInt - 1, math.MaxInt}
}

func same(t *testing.T, what string, got []int, want ...int) {
	t.Helper()
	if !slices.Equal(got, want) {
		t.Errorf("%s: %v, not %v", what, got, want)
	}
}

func TestExample(t *testing.T) {
	l := parsed(t, "grid { leaf { order: 2; } leaf { } grid { leaf { } } }")
	same(t, "Children", arena.Children(l, 0), 1, 2, 3)
	same(t, "Ordered", arena.Ordered(l, 0), 2, 3, 1)
	if n := arena.End(l, 3); n != 5 {
		t.Error(n)
	}
}

// family is a document with grids in grids: two of them without nodes in them, one of these the last node.
func family(t *testing.T) []api.Node {
	t.Helper()
	return parsed(t, `grid {
		leaf { }
		grid { leaf { } grid { leaf { } leaf { } } grid { } leaf { } }
		leaf { }
		grid { grid { grid { } } }
	}`)
}

func TestChildren(t *testing.T) { // P13.1
	l := family(t)
	for i, want := range [][]int{{1, 2, 9, 10}, {}, {3, 4, 7, 8}, {}, {5, 6}, {}, {}, {}, {}, {}, {11}, {12}, {}} {
		same(t, "Children", arena.Children(l, i), want...)
		same(t, "Ordered", arena.Ordered(l, i), want...)
	}
}

func TestDepths(t *testing.T) { // P13.1
	same(t, "family", arena.Depths(family(t)), 0, 1, 1, 2, 2, 3, 3, 2, 2, 1, 1, 2, 3)
	same(t, "one leaf", arena.Depths(parsed(t, "leaf { }")), 0)
	same(t, "one grid", arena.Depths(parsed(t, "grid { }")), 0)
}

func TestEnd(t *testing.T) { // P13.1
	l := family(t)
	for i, want := range []int{13, 2, 9, 4, 7, 6, 7, 8, 9, 10, 13, 13, 13} {
		if n := arena.End(l, i); n != want {
			t.Errorf("%d: %d, not %d", i, n, want)
		}
	}
	for _, s := range []string{"leaf { }", "grid { }"} {
		if n := arena.End(parsed(t, s), 0); n != 1 {
			t.Errorf("%s: %d", s, n)
		}
	}
}

func TestNoPlace(t *testing.T) { // P13.1: the first node's Parent, -1, is no place
	for _, l := range [][]api.Node{nil, {}, parsed(t, "leaf { }"), parsed(t, "grid { }"), family(t), chain(api.MaxDepth), flat(api.MaxNodes)} {
		for _, i := range noPlaces(len(l)) {
			same(t, "Children", arena.Children(l, i))
			same(t, "Ordered", arena.Ordered(l, i))
			if n := arena.End(l, i); n != 0 {
				t.Errorf("%d nodes, End of %d: %d", len(l), i, n)
			}
		}
	}
	same(t, "Depths of no nodes", arena.Depths(nil))
	same(t, "Depths of no nodes", arena.Depths([]api.Node{}))
}

func TestOrdered(t *testing.T) { // P13.1
	for _, x := range []struct{ orders, want []int }{
		{[]int{}, []int{}},
		{[]int{7}, []int{1}},
		{[]int{0, 0, 0}, []int{1, 2, 3}},
		{[]int{5, 5, 5, 5}, []int{1, 2, 3, 4}},
		{[]int{1, 2, 3, 4}, []int{1, 2, 3, 4}},
		{[]int{4, 3, 2, 1}, []int{4, 3, 2, 1}},
		{[]int{-1, -2, -3}, []int{3, 2, 1}},
		{[]int{-3, -2, -1}, []int{1, 2, 3}},
		{[]int{1, 0, -1, 1, 0, -1}, []int{3, 6, 2, 5, 1, 4}},
		{[]int{2, 1, 2, 1, 2, 1}, []int{2, 4, 6, 1, 3, 5}},
		{[]int{0, 1, 0, -1, 0}, []int{4, 1, 3, 5, 2}},
		{[]int{api.MaxOrder, 0, -api.MaxOrder}, []int{3, 2, 1}},
		{[]int{math.MaxInt, math.MinInt, -1, math.MaxInt, math.MinInt, 1}, []int{2, 5, 3, 6, 1, 4}}, // no document's: their differences are no ints
	} {
		l := ordered(x.orders...)
		same(t, "Ordered", arena.Ordered(l, 0), x.want...)
		same(t, "Children", arena.Children(l, 0), places(1, len(l))...)
	}
}

// places tells from on, ahead of to.
func places(from, to int) []int {
	var l []int
	for i := from; i < to; i++ {
		l = append(l, i)
	}
	return l
}

func TestOrderOfChildrenAlone(t *testing.T) { // P13.1: neither the parent's Order nor that of nodes elsewhere counts
	l := parsed(t, `grid { order: 9;
		grid { order: 2; leaf { order: 5; } leaf { order: -5; } }
		leaf { order: 1; }
		grid { order: -7; leaf { order: 3; } leaf { order: 3; } }
	}`)
	same(t, "of 0", arena.Ordered(l, 0), 5, 4, 1)
	same(t, "of 1", arena.Ordered(l, 1), 3, 2)
	same(t, "of 5", arena.Ordered(l, 5), 6, 7)
}

func TestManyOfOneOrder(t *testing.T) { // P13.1: so many that a sort that is not stable would show
	random := rand.New(rand.NewPCG(13, 1))
	for range 20 {
		orders := make([]int, 500)
		for i := range orders {
			orders[i] = random.IntN(7) - 3
		}
		var want []int
		for order := -3; order <= 3; order++ {
			for i, o := range orders {
				if o == order {
					want = append(want, i+1)
				}
			}
		}
		same(t, "Ordered", arena.Ordered(ordered(orders...), 0), want...)
	}
}

func TestDeep(t *testing.T) { // P13.1
	l := chain(api.MaxDepth)
	same(t, "Depths", arena.Depths(l), places(0, api.MaxDepth)...)
	for i := range l {
		if n := arena.End(l, i); n != api.MaxDepth {
			t.Errorf("%d: %d", i, n)
		}
		same(t, "Children", arena.Children(l, i), places(i+1, min(i+2, len(l)))...)
	}
	notGood(t, "too deep", chain(api.MaxDepth+1))
	l = chain(api.MaxDepth + 1)
	same(t, "Children of a node at the limit", arena.Children(l, api.MaxDepth-1), api.MaxDepth)
}

func TestMany(t *testing.T) { // P13.1
	l := flat(api.MaxNodes)
	same(t, "Children", arena.Children(l, 0), places(1, api.MaxNodes)...)
	same(t, "Ordered", arena.Ordered(l, 0), places(1, api.MaxNodes)...)
	depths := arena.Depths(l)
	if len(depths) != api.MaxNodes || depths[0] != 0 || slices.Min(depths[1:]) != 1 || slices.Max(depths) != 1 {
		t.Error(len(depths))
	}
	for i, want := range map[int]int{0: api.MaxNodes, 1: 2, 2000: 2001, api.MaxNodes - 1: api.MaxNodes} {
		if n := arena.End(l, i); n != want {
			t.Errorf("%d: %d", i, n)
		}
	}
	l = flat(api.MaxNodes + 1)
	notGood(t, "too many", l)
	same(t, "Children of too many", arena.Children(l, 0), places(1, len(l))...)
	same(t, "Ordered of too many", arena.Ordered(l, 0), places(1, len(l))...)
}

// notGood asks that nothing is told of nodes that are no document's, but of their children.
func notGood(t *testing.T, what string, l []api.Node) {
	t.Helper()
	if document.Good(l) {
		t.Fatalf("%s: they are a document's", what)
	}
	if d := arena.Depths(l); len(d) != 0 {
		t.Errorf("%s: depths %v", what, d)
	}
	for _, i := range append(noPlaces(len(l)), places(0, len(l))...) {
		if n := arena.End(l, i); n != 0 {
			t.Errorf("%s, End of %d: %d", what, i, n)
		}
	}
}

func TestParentsThatMayNotBe(t *testing.T) { // P13.1
	for _, x := range []struct {
		parents []int
		want    [][]int // the children of each place
	}{
		{[]int{0}, [][]int{{0}}},
		{[]int{1}, [][]int{{}}},
		{[]int{-2}, [][]int{{}}},
		{[]int{math.MinInt}, [][]int{{}}},
		{[]int{math.MaxInt}, [][]int{{}}},
		{[]int{-1, -1}, [][]int{{}, {}}},
		{[]int{-1, 1}, [][]int{{}, {1}}},
		{[]int{-1, 2, 0}, [][]int{{2}, {}, {1}}},
		{[]int{1, 0}, [][]int{{1}, {0}}},
		{[]int{2, 2, 2}, [][]int{{}, {}, {0, 1, 2}}},
		{[]int{-1, 0, 0, 1}, [][]int{{1, 2}, {3}, {}, {}}}, // 1 is neither the node ahead of 3 nor above it
		{[]int{-1, 0, 3, 0, -5, 7, math.MaxInt, math.MinInt}, [][]int{{1, 3}, {}, {}, {2}, {}, {}, {}, {5}}},
		{[]int{-1, 0, 8, 8}, [][]int{{1}, {}, {}, {}}},
	} {
		l := grids(x.parents...)
		notGood(t, "parents", l)
		for i, want := range x.want {
			same(t, "Children", arena.Children(l, i), want...)
			same(t, "Ordered", arena.Ordered(l, i), want...)
		}
		for _, i := range noPlaces(len(l)) {
			same(t, "Children of no place", arena.Children(l, i))
			same(t, "Ordered of no place", arena.Ordered(l, i))
		}
	}
	l := grids(2, 2, 2)
	l[0].Style.Order, l[1].Style.Order, l[2].Style.Order = 1, math.MinInt, 0
	same(t, "Ordered, a node of its own among them", arena.Ordered(l, 2), 1, 2, 0)
}

func TestNodesThatMayNotBe(t *testing.T) { // P13.1
	for what, change := range map[string]func(l []api.Node){
		"no kind":               func(l []api.Node) { l[2].Kind = 0 },
		"an unknown kind":       func(l []api.Node) { l[2].Kind = 3 },
		"a kind below 0":        func(l []api.Node) { l[0].Kind = -1 },
		"nodes in a leaf":       func(l []api.Node) { l[0].Kind = api.NodeLeaf },
		"content in a grid":     func(l []api.Node) { l[0].Style.Content = [][]api.Box{{{W: 1, H: 1}}} },
		"no style":              func(l []api.Node) { l[1].Style = api.Style{} },
		"a style's Order":       func(l []api.Node) { l[2].Style.Order = api.MaxOrder + 1 },
		"the last node's style": func(l []api.Node) { l[3].Style.AlignSelf = api.AlignEvenly },
	} {
		l := parsed(t, "grid { leaf { } leaf { } leaf { order: -1; } }")
		change(l)
		notGood(t, what, l)
		same(t, what+": Children", arena.Children(l, 0), 1, 2, 3)
		same(t, what+": Ordered", arena.Ordered(l, 0), 3, 1, 2)
		same(t, what+": Children of a leaf", arena.Children(l, 1))
	}
}

// anyDocument tells a document's nodes by chance, some with an Order.
func anyDocument(random *rand.Rand, n int) []api.Node {
	l := grids(-1)
	open := []int{0}
	for len(l) < n {
		open = open[:1+random.IntN(len(open))]
		node := api.Node{Kind: api.NodeLeaf, Parent: open[len(open)-1], Style: style.Default()}
		node.Style.Order = random.IntN(5) - 2
		if len(open) < api.MaxDepth-1 && random.IntN(3) > 0 {
			node.Kind = api.NodeGrid
			open = append(open, len(l))
		}
		l = append(l, node)
	}
	return l
}

// above tells the places of the nodes above one, the nearest first.
func above(l []api.Node, i int) []int {
	var up []int
	for k := l[i].Parent; k >= 0; k = l[k].Parent {
		up = append(up, k)
	}
	return up
}

func TestWhatFollows(t *testing.T) { // P13.1, P13.3, P13.4
	random := rand.New(rand.NewPCG(13, 3))
	for range 150 {
		l := anyDocument(random, 1+random.IntN(30))
		depths := arena.Depths(l)
		if len(depths) != len(l) {
			t.Fatal(len(depths), len(l))
		}
		parents := make([]int, len(l))
		for i := range l {
			if depths[i] != len(above(l, i)) {
				t.Errorf("%d: depth %d", i, depths[i])
			}
			end := arena.End(l, i)
			for k := range l {
				within := k == i || slices.Contains(above(l, k), i)
				if within != (i <= k && k < end) {
					t.Errorf("%d stands in %d: %v; End %d", k, i, within, end)
				}
			}
			children := arena.Children(l, i)
			for _, child := range children {
				parents[child]++
				if l[child].Parent != i {
					t.Errorf("%d in %d", child, i)
				}
			}
			asOrdered(t, l, children, arena.Ordered(l, i))
		}
		if parents[0] != 0 || slices.ContainsFunc(parents[1:], func(n int) bool { return n != 1 }) {
			t.Error(parents)
		}
	}
}

// asOrdered asks whether children are told in their order.
func asOrdered(t *testing.T, l []api.Node, children, got []int) {
	t.Helper()
	if !slices.IsSorted(children) || !slices.Equal(slices.Sorted(slices.Values(got)), children) {
		t.Fatalf("%v, ordered %v", children, got)
	}
	for k := 1; k < len(got); k++ {
		a, b := l[got[k-1]].Style.Order, l[got[k]].Style.Order
		if a > b || a == b && got[k-1] > got[k] {
			t.Errorf("%v: order %d ahead of %d", got, a, b)
		}
	}
}

func TestNothingIsChanged(t *testing.T) {
	full := append(family(t), grids(0, 1, 2)...)
	for i := range full {
		full[i].Style.Order = -i % 4
	}
	want := slices.Clone(full)
	l := full[:len(full)-3]
	for i := range l {
		arena.Children(l, i)
		arena.Ordered(l, i)
		arena.End(l, i)
	}
	arena.Depths(l)
	arena.Sides(l[0].Style, l[1].Style)
	if !document.Same(full, want) {
		t.Error("something has changed")
	}
	a, b := arena.Ordered(l, 0), arena.Ordered(l, 0)
	a[0] = -9
	if b[0] == -9 || arena.Ordered(l, 0)[0] == -9 {
		t.Error("answers are kept")
	}
}

// side tells what a child's own word and its parent's come to.
func side(self, items int) int {
	if self == api.AlignAuto {
		self = items
	}
	if self == api.AlignNormal {
		return api.AlignStretch
	}
	return self
}

// aligns are all kinds, and numbers that are none.
func aligns() []int {
	return append(places(api.AlignAuto, api.AlignEvenly+1), math.MinInt, -1, 0, api.AlignEvenly+1, math.MaxInt)
}

func TestSides(t *testing.T) { // P13.2
	for _, self := range aligns() {
		for _, items := range aligns() {
			for _, other := range aligns() {
				parent, child := style.Default(), style.Default()
				parent.JustifyItems, child.JustifySelf, parent.AlignItems, child.AlignSelf = items, self, other, api.AlignAuto
				if j, a := arena.Sides(parent, child); j != side(self, items) || a != side(api.AlignAuto, other) {
					t.Errorf("%d in %d, auto in %d: %d, %d", self, items, other, j, a)
				}
				parent.JustifyItems, child.JustifySelf, parent.AlignItems, child.AlignSelf = other, other, items, self
				if j, a := arena.Sides(parent, child); j != side(other, other) || a != side(self, items) {
					t.Errorf("%d in %d, %d in %d: %d, %d", other, other, self, items, j, a)
				}
			}
		}
	}
}

func TestSidesByWord(t *testing.T) { // P13.2
	for _, x := range []struct {
		parent, child  string
		justify, align int
	}{
		{"", "", api.AlignStretch, api.AlignStretch},
		{"justify-items: normal;", "align-self: normal;", api.AlignStretch, api.AlignStretch},
		{"justify-items: end;", "", api.AlignEnd, api.AlignStretch},
		{"align-items: end;", "", api.AlignStretch, api.AlignEnd},
		{"justify-items: end;", "justify-self: normal;", api.AlignStretch, api.AlignStretch},
		{"align-items: end;", "align-self: normal;", api.AlignStretch, api.AlignStretch},
		{"justify-items: end;", "justify-self: start;", api.AlignStart, api.AlignStretch},
		{"align-items: end;", "align-self: start;", api.AlignStretch, api.AlignStart},
		{"justify-items: center; align-items: start;", "justify-self: auto; align-self: auto;", api.AlignCenter, api.AlignStart},
		{"justify-items: center; align-items: start;", "align-self: end;", api.AlignCenter, api.AlignEnd},
		{"justify-items: stretch; align-items: stretch;", "", api.AlignStretch, api.AlignStretch},
		{"justify-content: end; align-content: center; justify-self: end; align-self: center;", "", api.AlignStretch, api.AlignStretch},
		{"", "justify-self: stretch; align-self: center;", api.AlignStretch, api.AlignCenter},
	} {
		l := parsed(t, strings.Join([]string{"grid {", x.parent, "leaf {", x.child, "} }"}, " "))
		if j, a := arena.Sides(l[0].Style, l[1].Style); j != x.justify || a != x.align {
			t.Errorf("%q in %q: %d, %d", x.child, x.parent, j, a)
		}
	}
	child := style.Default() // what a child says of those within itself does not count
	child.JustifyItems, child.AlignItems, child.JustifyContent, child.AlignContent = api.AlignEnd, api.AlignCenter, api.AlignEnd, api.AlignCenter
	if j, a := arena.Sides(style.Default(), child); j != api.AlignStretch || a != api.AlignStretch {
		t.Error(j, a)
	}
	if j, a := arena.Sides(api.Style{}, api.Style{}); j != 0 || a != 0 {
		t.Error(j, a)
	}
}
