package place_test

import (
	"math/rand/v2"
	"slices"
	"testing"

	"parterre/api"
	"parterre/place"
)

// holdPlain holds Place against what is told step by step.
func holdPlain(t *testing.T, items []api.Item, cols int, dense bool) ([]api.Cell, api.Errno) {
	t.Helper()
	want, fault := plain(items, cols, dense)
	hold(t, items, cols, dense, want, fault)
	if t.Failed() {
		t.FailNow()
	}
	return want, fault
}

func TestEveryFew(t *testing.T) { // P20.1: each list of up to three items of some kinds
	var all []api.Item
	for _, row := range []api.Span{auto(1), auto(2), at(0, 1), at(-1, 1)} {
		for _, col := range []api.Span{auto(1), auto(2), at(0, 1), at(-1, 1), at(1, 2)} {
			all = append(all, api.Item{Row: row, Col: col})
		}
	}
	for cols := range 3 {
		for _, dense := range []bool{false, true} {
			for _, a := range all {
				holdPlain(t, []api.Item{a}, cols, dense)
				for _, b := range all {
					holdPlain(t, []api.Item{a, b}, cols, dense)
					for _, c := range all {
						holdPlain(t, []api.Item{a, b, c}, cols, dense)
					}
				}
			}
		}
	}
}

// some tells a span by chance, fixed as often as is said of 10 times.
func some(random *rand.Rand, often, reach, longest int) api.Span {
	n := 1 + random.IntN(longest)
	if random.IntN(10) >= often {
		return auto(n)
	}
	from := random.IntN(2*reach+1) - reach
	if random.IntN(2) == 0 {
		from = random.IntN(reach + 1)
	}
	return at(from, from+n)
}

func someItems(random *rand.Rand, most int) []api.Item {
	often, reach, longest := random.IntN(8), 1+random.IntN(8), 1+random.IntN(5)
	var items []api.Item
	for range random.IntN(most + 1) {
		items = append(items, api.Item{Row: some(random, often, reach, longest), Col: some(random, often, reach, longest)})
	}
	return items
}

func TestByChance(t *testing.T) { // P20.1, P20.5
	random := rand.New(rand.NewPCG(20, 1))
	for range 15000 {
		holdPlain(t, someItems(random, 15), random.IntN(8), random.IntN(2) == 0)
	}
	for range 200 {
		holdPlain(t, someItems(random, 150), random.IntN(20), random.IntN(2) == 0)
	}
}

func TestSizesByChance(t *testing.T) { // P20.1: many sizes, hardly one twice, which leave gaps of all sizes
	random := rand.New(rand.NewPCG(20, 7))
	for range 20 {
		var items []api.Item
		for range 120 {
			items = append(items, api.Item{Row: some(random, 1, 40, 12), Col: some(random, 1, 20, 12)})
		}
		for _, dense := range []bool{false, true} {
			holdPlain(t, items, 12+random.IntN(20), dense)
		}
	}
}

func TestFarByChance(t *testing.T) { // P20.1: at the farthest lines, with ErrFull now and then
	random := rand.New(rand.NewPCG(20, 8))
	far := func() api.Span {
		switch random.IntN(6) {
		case 0:
			return auto(1 + random.IntN(3))
		case 1:
			return auto(most - random.IntN(3))
		case 2:
			return at(random.IntN(3), most-random.IntN(3))
		case 3:
			return at(random.IntN(3)-most, random.IntN(3))
		case 4:
			return at(most-2-random.IntN(2), most-random.IntN(2))
		}
		return at(random.IntN(4)-2, 2+random.IntN(3))
	}
	full := 0
	for range 400 {
		var items []api.Item
		for range 1 + random.IntN(5) {
			v := api.Item{Row: far(), Col: far()}
			if v.Row.Auto && v.Col.Auto { // a walk over all rows and all columns would take long
				v.Col = at(0, 1)
			}
			items = append(items, v)
		}
		if _, e := holdPlain(t, items, random.IntN(3), random.IntN(2) == 0); e == api.ErrFull {
			full++
		}
	}
	if full < 50 || full > 350 {
		t.Error(full)
	}
}

func overlap(a, b api.Cell) bool {
	g := ground{put: []api.Cell{a}}
	return !g.free(b)
}

func TestApart(t *testing.T) { // P20.3: only items that are fixed along both axes share a cell; and each has what its spans say
	random := rand.New(rand.NewPCG(20, 3))
	for range 3000 {
		items, column, dense := someItems(random, 30), random.IntN(2) == 0, random.IntN(2) == 0
		cells, e := place.Place(items, random.IntN(9), random.IntN(9), column, dense)
		if e != api.OK || len(cells) != len(items) {
			t.Fatal(items, int(e))
		}
		free := func(v api.Item) bool { return v.Row.Auto || v.Col.Auto }
		for i, v := range items {
			c := cells[i]
			if c.Rows != long(v.Row) || c.Cols != long(v.Col) || !v.Row.Auto && c.Row != v.Row.From || !v.Col.Auto && c.Col != v.Col.From {
				t.Fatal(items, column, dense, i, c)
			}
			for k := range i {
				if (free(v) || free(items[k])) && overlap(c, cells[k]) {
					t.Fatal(items, column, dense, i, k, cells)
				}
			}
		}
	}
}

// ahead tells which items were put ahead of one without fixed lines: all with a fixed row, and those of the others ahead of it in the list.
func ahead(items []api.Item, cells []api.Cell, i int) *ground {
	g := &ground{}
	for k, v := range items {
		if !v.Row.Auto || k < i {
			g.put = append(g.put, cells[k])
		}
	}
	return g
}

func TestLeast(t *testing.T) { // P20.4
	random := rand.New(rand.NewPCG(20, 4))
	looked := 0
	for range 2000 {
		items, cols := someItems(random, 25), random.IntN(9)
		cells, e := place.Place(items, random.IntN(9), cols, false, true)
		if e != api.OK {
			t.Fatal(items, int(e))
		}
		last, corner := cols, mark{}
		for k, v := range items {
			last = max(last, cells[k].Col+cells[k].Cols)
			corner = mark{min(corner.row, v.Row.From), min(corner.col, v.Col.From)}
		}
		for i, v := range items {
			if !v.Row.Auto || !v.Col.Auto {
				continue
			}
			g, c := ahead(items, cells, i), cells[i]
			for row := corner.row; row <= c.Row; row++ {
				end := last
				if row == c.Row {
					end = c.Col + c.Cols - 1
				}
				if at, is := g.right(api.Cell{Row: row, Col: corner.col, Rows: c.Rows, Cols: c.Cols}, end); is {
					t.Fatal(items, cols, i, c, at)
				}
			}
			looked++
		}
	}
	if looked < 1000 {
		t.Error(looked)
	}
}

func TestTurned(t *testing.T) { // P20.5
	random := rand.New(rand.NewPCG(20, 5))
	for range 5000 {
		items, column, dense := someItems(random, 20), random.IntN(2) == 0, random.IntN(2) == 0
		rows, cols := random.IntN(7), random.IntN(7)
		one, e := place.Place(items, rows, cols, column, dense)
		other, fault := place.Place(turnedItems(items), cols, rows, !column, dense)
		if e != fault || !slices.Equal(one, turnedCells(other)) {
			t.Fatal(items, rows, cols, column, dense, one, other, int(e), int(fault))
		}
	}
}

func TestManySizes(t *testing.T) { // rule 1: as many as may be, each of a size of its own, so that dense looks at all rows for each; it ends within some seconds, and all stand apart
	var items []api.Item
	for i := range api.MaxNodes {
		items = append(items, api.Item{Row: auto(64 - i%64), Col: auto(64 - i/64)})
	}
	cells, e := place.Place(items, 0, 1000, false, true)
	if e != api.OK {
		t.Fatal(int(e))
	}
	for i, c := range cells {
		for _, b := range cells[:i] {
			if overlap(b, c) {
				t.Fatal(i, b, c)
			}
		}
	}
}
