package occupy_test

import (
	"math"
	"slices"
	"testing"

	"parterre/api"
	"parterre/occupy"
)

const most = api.MaxLine

func cell(row, col, rows, cols int) api.Cell {
	return api.Cell{Row: row, Col: col, Rows: rows, Cols: cols}
}

// rightCells are cells at the edges of what may be.
func rightCells() []api.Cell {
	return []api.Cell{
		cell(0, 0, 1, 1), cell(-most, 0, 1, 1), cell(most, 0, 1, 1), cell(0, -most, 1, 1), cell(0, most, 1, 1), cell(-most, -most, 1, 1), cell(most, most, 1, 1),
		cell(0, 0, 2*most, 1), cell(0, 0, 1, 2*most), cell(-most, -most, 2*most, 2*most), cell(most, most, 2*most, 2*most), cell(-1, 1, 2*most-1, 2*most-1), cell(-3, 5, 2, 7),
	}
}

// wrongCells are cells that are not right, each in one way or in several.
func wrongCells() []api.Cell {
	l := []api.Cell{{}}
	for _, n := range []int{math.MinInt, math.MinInt + 1, -most - 1, most + 1, math.MaxInt - 1, math.MaxInt} {
		l = append(l, cell(n, 0, 1, 1), cell(0, n, 1, 1), cell(n, n, 1, 1), cell(n, 0, 2*most, 2*most), cell(0, n, 2*most, 2*most))
	}
	for _, n := range []int{math.MinInt, math.MinInt + 1, -2 * most, -1, 0, 2*most + 1, math.MaxInt - 1, math.MaxInt} {
		l = append(l, cell(0, 0, n, 1), cell(0, 0, 1, n), cell(0, 0, n, n), cell(most, most, n, 1), cell(-most, -most, 1, n), cell(n, n, n, n))
	}
	return l
}

func TestExample(t *testing.T) {
	if n, is := occupy.Right([]api.Cell{cell(0, 1, 1, 2)}, cell(0, 0, 1, 2), 9); n != 3 || !is {
		t.Error(n, is)
	}
}

func TestRight(t *testing.T) { // the word "right", of P19.1: a cell that may be is free where nothing is, and overlaps itself
	for _, c := range rightCells() {
		if !occupy.Overlap(c, c) || !occupy.Free(nil, c) || occupy.Free([]api.Cell{c}, c) {
			t.Error(c)
		}
	}
	for _, c := range wrongCells() {
		if occupy.Overlap(c, c) || occupy.Free(nil, c) || occupy.Free([]api.Cell{c}, c) {
			t.Error(c)
		}
	}
}

func TestOverlap(t *testing.T) { // P19.1
	c := cell(2, 3, 2, 3) // rows 2 and 3, columns 3 to 5
	for _, x := range []struct {
		b    api.Cell
		want bool
	}{
		{c, true}, {cell(2, 3, 1, 1), true}, {cell(3, 5, 1, 1), true}, {cell(0, 0, 9, 9), true}, {cell(2, 4, 2, 1), true}, {cell(0, 4, 9, 1), true}, {cell(3, 0, 1, 9), true},
		// a corner of one cell each
		{cell(1, 2, 2, 2), true}, {cell(1, 5, 2, 2), true}, {cell(3, 2, 2, 2), true}, {cell(3, 5, 2, 2), true},
		// they touch at a corner
		{cell(1, 2, 1, 1), false}, {cell(1, 6, 1, 1), false}, {cell(4, 2, 1, 1), false}, {cell(4, 6, 1, 1), false},
		// they touch at an edge
		{cell(1, 3, 1, 3), false}, {cell(4, 3, 1, 3), false}, {cell(2, 2, 2, 1), false}, {cell(2, 6, 2, 1), false}, {cell(-5, 3, 7, 3), false}, {cell(2, -9, 2, 12), false},
		// they share a row alone
		{cell(2, 0, 2, 2), false}, {cell(3, 9, 1, 1), false}, {cell(2, -most, 1, most), false},
		// they share a column alone
		{cell(0, 4, 1, 1), false}, {cell(9, 3, 2, 3), false}, {cell(-most, 3, most, 1), false},
		// they share none
		{cell(8, 8, 1, 1), false}, {cell(-8, -8, 1, 1), false}, {cell(-most, most, 1, 1), false},
	} {
		if occupy.Overlap(c, x.b) != x.want || occupy.Overlap(x.b, c) != x.want || occupy.Free([]api.Cell{x.b}, c) == x.want || occupy.Free([]api.Cell{c}, x.b) == x.want {
			t.Error(x)
		}
	}
}

func TestOverlapFar(t *testing.T) { // P19.1: at the farthest lines
	for _, x := range []struct {
		a, b api.Cell
		want bool
	}{
		{cell(-most, -most, 2*most, 2*most), cell(most-1, most-1, 1, 1), true},
		{cell(-most, -most, 2*most, 2*most), cell(most, most-1, 1, 1), false},
		{cell(-most, -most, 2*most, 2*most), cell(most-1, most, 1, 1), false},
		{cell(-most+1, -most, 2*most, 2*most), cell(most, most-1, 1, 1), true},
		{cell(most, most, 2*most, 2*most), cell(most, most, 1, 1), true},
		{cell(most, most, 2*most, 2*most), cell(-most, -most, 2*most, 2*most), false},
		{cell(-most, 0, 1, 1), cell(-most, 0, 2*most, 1), true},
		{cell(-most+1, 0, 1, 1), cell(-most, 0, 1, 2*most), false},
	} {
		if occupy.Overlap(x.a, x.b) != x.want || occupy.Overlap(x.b, x.a) != x.want {
			t.Error(x)
		}
	}
}

func TestOverlapWrong(t *testing.T) { // P19.1: of cells that are not right
	all := cell(-most, -most, 2*most, 2*most)
	for _, wrong := range wrongCells() {
		for _, right := range append(rightCells(), all) {
			if occupy.Overlap(wrong, right) || occupy.Overlap(right, wrong) || occupy.Free([]api.Cell{right}, wrong) || !occupy.Free([]api.Cell{wrong}, right) {
				t.Error(wrong, right)
			}
		}
		for _, other := range wrongCells() {
			if occupy.Overlap(wrong, other) || occupy.Free([]api.Cell{other}, wrong) {
				t.Error(wrong, other)
			}
		}
	}
}

func TestFree(t *testing.T) { // P19.1: of lists
	c := cell(0, 0, 2, 2)
	beside := []api.Cell{cell(0, 2, 2, 1), cell(2, 0, 1, 2), cell(-1, -1, 1, 5), cell(5, 5, 1, 1)}
	if !occupy.Free(nil, c) || !occupy.Free([]api.Cell{}, c) || !occupy.Free(beside, c) || !occupy.Free(wrongCells(), c) || !occupy.Free(append(wrongCells(), beside...), c) {
		t.Error("free")
	}
	for i := range len(beside) + 1 {
		l := slices.Insert(slices.Clone(beside), i, cell(1, 1, 1, 1))
		if occupy.Free(l, c) || occupy.Free(append(wrongCells(), l...), c) || occupy.Free(append(l, wrongCells()...), c) {
			t.Error(i)
		}
	}
}

// want is what Right tells.
type want struct {
	at int
	is bool
}

func none() want { return want{} }

func TestNext(t *testing.T) { // P19.2, P19.5: each of Right, and turned of Down
	row := []api.Cell{cell(0, 1, 1, 2), cell(0, 4, 3, 1), cell(1, 6, 1, 3)}
	for _, x := range []struct {
		l    []api.Cell
		c    api.Cell
		most int
		want want
	}{
		// nothing is in the way
		{nil, cell(0, 0, 1, 1), 9, want{0, true}}, {nil, cell(0, -3, 4, 2), 9, want{-3, true}}, {row, cell(0, 0, 1, 1), 9, want{0, true}}, {row, cell(0, 3, 1, 1), 9, want{3, true}}, {row, cell(5, 1, 2, 3), 9, want{1, true}}, {row, cell(-4, 1, 4, 3), 9, want{1, true}}, {row, cell(0, 5, 1, 4), 9, want{5, true}}, {row, cell(0, -2, 1, 3), 9, want{-2, true}}, {row, cell(2, 0, 1, 4), 9, want{0, true}},
		// one cell is
		{row, cell(0, 1, 1, 1), 9, want{3, true}}, {row, cell(0, 2, 1, 1), 9, want{3, true}}, {row, cell(0, 4, 1, 1), 9, want{5, true}}, {row, cell(2, 1, 1, 4), 9, want{5, true}}, {row, cell(0, -1, 1, 3), 9, want{5, true}}, {row, cell(1, 7, 1, 1), 10, want{9, true}},
		// one behind the other is
		{row, cell(0, 0, 1, 2), 9, want{5, true}}, {row, cell(0, 1, 2, 1), 9, want{3, true}}, {row, cell(0, 1, 2, 2), 12, want{9, true}}, {row, cell(0, -5, 3, 7), 16, want{9, true}}, {row, cell(1, 3, 1, 2), 12, want{9, true}},
		// how far it may go
		{row, cell(0, 0, 1, 2), 7, want{5, true}}, {row, cell(0, 0, 1, 2), 6, none()}, {row, cell(0, 0, 1, 2), 1, none()}, {row, cell(0, 0, 1, 2), 0, none()}, {row, cell(0, 0, 1, 2), -1, none()}, {row, cell(0, 0, 1, 1), 1, want{0, true}}, {row, cell(0, 0, 1, 1), 0, none()}, {row, cell(0, 1, 1, 1), 4, want{3, true}}, {row, cell(0, 1, 1, 1), 3, none()}, {nil, cell(0, 0, 1, 5), 5, want{0, true}}, {nil, cell(0, 0, 1, 5), 4, none()}, {nil, cell(0, -5, 1, 5), 0, want{-5, true}}, {nil, cell(0, -5, 1, 5), -1, none()}, {nil, cell(0, 9, 1, 1), 9, none()}, {nil, cell(0, 9, 1, 1), 5, none()},
		// the limits of lines
		{row, cell(0, 0, 1, 2), most, want{5, true}}, {nil, cell(0, most-1, 1, 1), most, want{most - 1, true}}, {nil, cell(0, most, 1, 1), most, none()}, {nil, cell(0, -most, 1, 2*most), most, want{-most, true}}, {nil, cell(0, -most+1, 1, 2*most), most, none()}, {nil, cell(0, -most, 1, 2*most), most - 1, none()}, {nil, cell(0, -most, 1, 1), -most + 1, want{-most, true}}, {nil, cell(0, -most, 1, 1), -most, none()}, {nil, cell(0, 0, 1, 1), -most, none()},
		{[]api.Cell{cell(0, -most, 1, 2*most-1)}, cell(0, -most, 1, 1), most, want{most - 1, true}}, {[]api.Cell{cell(0, -most, 1, 2*most)}, cell(0, -most, 1, 1), most, none()}, {[]api.Cell{cell(0, most, 1, 2*most)}, cell(0, 0, 1, most), most, want{0, true}}, {[]api.Cell{cell(-most, 0, 2*most, 5)}, cell(most-1, 0, 1, 1), most, want{5, true}}, {[]api.Cell{cell(-most, 0, 2*most, 5)}, cell(most, 0, 1, 1), most, want{0, true}}, {[]api.Cell{cell(most, 0, 2*most, 5)}, cell(most, 0, 2*most, 1), most, want{5, true}},
		// most beyond them
		{nil, cell(0, 0, 1, 1), most + 1, none()}, {nil, cell(0, -most, 1, 1), -most - 1, none()}, {nil, cell(0, 0, 1, 1), math.MaxInt, none()}, {nil, cell(0, 0, 1, 1), math.MinInt, none()}, {row, cell(0, 0, 1, 1), most + 1, none()},
		// cells in one another, or on each other
		{[]api.Cell{cell(0, 0, 1, 9), cell(0, 2, 1, 3), cell(0, 0, 1, 9), cell(0, 8, 1, 1)}, cell(0, 1, 1, 1), 99, want{9, true}}, {[]api.Cell{cell(0, 0, 1, 2), cell(0, 1, 1, 4), cell(0, 3, 1, 4)}, cell(0, 0, 1, 1), 99, want{7, true}}, {[]api.Cell{cell(0, 0, 1, 9), cell(0, 2, 1, 3), cell(0, 10, 1, 1)}, cell(0, 3, 1, 2), 99, want{11, true}},
	} {
		holdNext(t, x.l, x.c, x.most, x.want)
		holdNext(t, append(wrongCells(), x.l...), x.c, x.most, x.want)
		holdNext(t, append(slices.Clone(x.l), wrongCells()...), x.c, x.most, x.want)
	}
}

func turned(l []api.Cell) []api.Cell {
	var out []api.Cell
	for _, c := range l {
		out = append(out, cell(c.Col, c.Row, c.Cols, c.Rows))
	}
	return out
}

// holdNext holds Right, and Down of all turned, against what they should tell.
func holdNext(t *testing.T, l []api.Cell, c api.Cell, line int, w want) {
	t.Helper()
	if at, is := occupy.Right(l, c, line); at != w.at || is != w.is {
		t.Errorf("Right %v, %v, %d: %d %v, not %v", l, c, line, at, is, w)
	}
	if at, is := occupy.Down(turned(l), cell(c.Col, c.Row, c.Cols, c.Rows), line); at != w.at || is != w.is {
		t.Errorf("Down %v, %v, %d: %d %v, not %v", l, c, line, at, is, w)
	}
}

func TestNextWrong(t *testing.T) { // P19.2: of cells that are not right
	for _, c := range wrongCells() {
		for _, line := range []int{math.MinInt, -most - 1, -most, 0, 1, most, most + 1, math.MaxInt} {
			holdNext(t, nil, c, line, none())
			holdNext(t, rightCells(), c, line, none())
		}
	}
}

func TestNextAnyOrder(t *testing.T) { // P19.2: how the list is sorted changes nothing
	l := []api.Cell{cell(0, 0, 1, 2), cell(-1, 2, 3, 1), cell(0, 4, 1, 2), cell(0, 5, 2, 3), cell(1, 0, 1, 99), cell(0, 9, 1, 1)}
	var permute func(int)
	permute = func(from int) {
		if from == len(l) {
			holdNext(t, l, cell(0, 0, 1, 1), 99, want{3, true})
			holdNext(t, l, cell(0, 1, 1, 2), 99, want{10, true})
			holdNext(t, l, cell(0, 1, 1, 2), 11, none())
			holdNext(t, l, cell(0, 4, 1, 1), 9, want{8, true})
			holdNext(t, l, cell(-1, 0, 1, 3), 99, want{3, true})
			return
		}
		for i := from; i < len(l); i++ {
			l[from], l[i] = l[i], l[from]
			permute(from + 1)
			l[from], l[i] = l[i], l[from]
		}
	}
	permute(0)
}

func TestNextMany(t *testing.T) { // P19.2: a whole row of cells, backwards
	var l []api.Cell
	for i := range 2*most - 3 {
		l = append(l, cell(0, most-4-i, 1, 1))
	}
	holdNext(t, l, cell(0, -most, 1, 3), most, want{most - 3, true})
	holdNext(t, l, cell(0, -most, 1, 4), most, none())
	holdNext(t, l, cell(1, -most, 1, 4), most, want{-most, true})
}

func TestTurn(t *testing.T) { // P19.3
	for _, c := range append(append(rightCells(), wrongCells()...), cell(1, 2, 3, 4), cell(math.MinInt, math.MaxInt, -1, 0)) {
		got := occupy.Turn(c)
		if got != cell(c.Col, c.Row, c.Cols, c.Rows) || occupy.Turn(got) != c {
			t.Error(c, got)
		}
	}
}

func TestBounds(t *testing.T) { // P19.3
	for _, x := range []struct {
		l         []api.Cell
		low, high api.Cell
	}{
		{nil, api.Cell{}, api.Cell{}}, {[]api.Cell{}, api.Cell{}, api.Cell{}},
		{[]api.Cell{cell(0, 0, 1, 1)}, cell(0, 0, 0, 0), cell(1, 1, 0, 0)},
		{[]api.Cell{cell(3, 5, 2, 4)}, cell(3, 5, 0, 0), cell(5, 9, 0, 0)},
		{[]api.Cell{cell(-7, -9, 2, 4)}, cell(-7, -9, 0, 0), cell(-5, -5, 0, 0)},
		{[]api.Cell{cell(3, 5, 2, 4), cell(1, 8, 9, 2)}, cell(1, 5, 0, 0), cell(10, 10, 0, 0)},
		{[]api.Cell{cell(3, 5, 9, 9), cell(4, 6, 1, 1)}, cell(3, 5, 0, 0), cell(12, 14, 0, 0)},
		{[]api.Cell{cell(-3, 5, 1, 1), cell(4, -6, 1, 1)}, cell(-3, -6, 0, 0), cell(5, 6, 0, 0)},
		{[]api.Cell{cell(-most, most, 1, 1), cell(most, -most, 1, 1)}, cell(-most, -most, 0, 0), cell(most+1, most+1, 0, 0)},
		{[]api.Cell{cell(most, most, 2*most, 2*most)}, cell(most, most, 0, 0), cell(3*most, 3*most, 0, 0)},
		{[]api.Cell{cell(2, 2, 1, 1), cell(2, 2, 1, 1)}, cell(2, 2, 0, 0), cell(3, 3, 0, 0)},
	} {
		for _, l := range [][]api.Cell{x.l, append(wrongCells(), x.l...), append(slices.Clone(x.l), wrongCells()...)} {
			if low, high := occupy.Bounds(l); low != x.low || high != x.high {
				t.Error(x, low, high)
			}
			slices.Reverse(l)
			if low, high := occupy.Bounds(turned(l)); low != occupy.Turn(x.low) || high != occupy.Turn(x.high) {
				t.Error(x, low, high)
			}
		}
	}
	for _, c := range wrongCells() {
		if low, high := occupy.Bounds([]api.Cell{c, c}); low != (api.Cell{}) || high != (api.Cell{}) {
			t.Error(c, low, high)
		}
	}
}

func TestUnchanged(t *testing.T) { // rules 4 and 8
	whole := []api.Cell{cell(0, 5, 1, 1), cell(0, 3, 1, 1), {}, cell(0, 0, 1, 2), cell(0, 2, 1, 1), cell(-9, -9, 99, 99)}
	before, l := slices.Clone(whole), whole[:4]
	holdNext(t, l, cell(0, 0, 1, 1), 9, want{2, true})
	holdNext(t, l, cell(0, 0, 1, 2), 9, want{6, true})
	if low, high := occupy.Bounds(l); low != cell(0, 0, 0, 0) || high != cell(1, 6, 0, 0) {
		t.Error(low, high)
	}
	if !occupy.Free(l, cell(0, 2, 1, 1)) {
		t.Error("free")
	}
	occupy.Down(l, cell(0, 0, 1, 1), 9)
	if !slices.Equal(whole, before) {
		t.Error(whole)
	}
}
