package occupy_test

import (
	"math/rand/v2"
	"testing"

	"parterre/api"
	"parterre/occupy"
)

// place is a row and a column.
type place [2]int

// taken tells all rows and columns that a cell has.
func taken(c api.Cell) map[place]bool {
	all := map[place]bool{}
	for row := range c.Rows {
		for col := range c.Cols {
			all[place{c.Row + row, c.Col + col}] = true
		}
	}
	return all
}

// meet tells whether two cells share a place.
func meet(a, b api.Cell) bool {
	all := taken(a)
	for p := range taken(b) {
		if all[p] {
			return true
		}
	}
	return false
}

// someCell tells a small cell by chance, now and then one that is not right.
func someCell(random *rand.Rand) api.Cell {
	return cell(random.IntN(9)-4, random.IntN(15)-7, random.IntN(4), random.IntN(5))
}

func TestOverlapByChance(t *testing.T) { // P19.1: held against all places of both
	random := rand.New(rand.NewPCG(19, 1))
	for range 20000 {
		a, b := someCell(random), someCell(random)
		if occupy.Overlap(a, b) != meet(a, b) || occupy.Overlap(occupy.Turn(a), occupy.Turn(b)) != meet(a, b) {
			t.Fatal(a, b)
		}
	}
}

func TestNear(t *testing.T) { // P19.2, P19.4, P19.5: held against a walk from column to column
	random := rand.New(rand.NewPCG(19, 4))
	found, full := 0, 0
	for range 20000 {
		var l []api.Cell
		for range random.IntN(12) {
			l = append(l, someCell(random))
		}
		c := cell(random.IntN(9)-4, random.IntN(9)-6, 1+random.IntN(3), 1+random.IntN(4))
		line := random.IntN(16) - 2
		w := none()
		for col := c.Col; col+c.Cols <= line; col++ {
			at := cell(c.Row, col, c.Rows, c.Cols)
			free := true
			for _, b := range l {
				free = free && !meet(b, at)
			}
			if occupy.Free(l, at) != free {
				t.Fatal(l, at)
			}
			if free {
				w = want{col, true}
				break
			}
		}
		if w.is {
			found++
		} else {
			full++
		}
		holdNext(t, l, c, line, w)
		if t.Failed() {
			t.FailNow()
		}
	}
	if found < 1000 || full < 1000 {
		t.Error(found, full)
	}
}

func TestNearFar(t *testing.T) { // P19.4: among cells of any size; one column ahead of what is told it is not free, nor anywhere on the way
	random := rand.New(rand.NewPCG(19, 5))
	line := func() int { return random.IntN(2*most+1) - most }
	for range 300 {
		var l []api.Cell
		for range random.IntN(200) {
			l = append(l, cell(line(), line(), 1+random.IntN(2*most), 1+random.IntN(300)))
		}
		c := cell(line(), line(), 1+random.IntN(50), 1+random.IntN(50))
		end := line()
		at, is := occupy.Right(l, c, end)
		holdNext(t, l, c, end, want{at, is})
		stop := at
		if !is {
			stop = end - c.Cols + 1
		} else if at < c.Col || at+c.Cols > end || !occupy.Free(l, cell(c.Row, at, c.Rows, c.Cols)) {
			t.Fatal(l, c, end, at)
		}
		for col := c.Col; col < stop; col++ {
			if occupy.Free(l, cell(c.Row, col, c.Rows, c.Cols)) {
				t.Fatal(l, c, end, at, is, col)
			}
		}
	}
}

func TestBoundsByChance(t *testing.T) { // P19.3: held against all places
	random := rand.New(rand.NewPCG(19, 3))
	for range 5000 {
		var l []api.Cell
		var low, high api.Cell
		some := false
		for range random.IntN(5) {
			c := someCell(random)
			l = append(l, c)
			for p := range taken(c) {
				if !some {
					some, low, high = true, cell(p[0], p[1], 0, 0), cell(p[0]+1, p[1]+1, 0, 0)
				}
				low, high = cell(min(low.Row, p[0]), min(low.Col, p[1]), 0, 0), cell(max(high.Row, p[0]+1), max(high.Col, p[1]+1), 0, 0)
			}
		}
		if begin, end := occupy.Bounds(l); begin != low || end != high {
			t.Fatal(l, begin, end)
		}
	}
}
