package place_test

import (
	"slices"
	"strconv"
	"strings"
	"testing"

	"parterre/api"
	"parterre/place"
)

const most = api.MaxLine

func auto(n int) api.Span { return api.Span{Auto: true, N: n} }

func at(from, to int) api.Span { return api.Span{From: from, To: to} }

func number(t *testing.T, s string) int {
	t.Helper()
	n, err := strconv.Atoi(s)
	if err != nil {
		t.Fatal(err)
	}
	return n
}

// span tells a span, as text tells it: 0:2 from line 0 to 2; 3 of 3 tracks anywhere.
func span(t *testing.T, s string) api.Span {
	t.Helper()
	if from, to, is := strings.Cut(s, ":"); is {
		return at(number(t, from), number(t, to))
	}
	return auto(number(t, s))
}

// read tells items, as text tells them: row and column with / between, items with blanks between.
func read(t *testing.T, s string) []api.Item {
	t.Helper()
	var items []api.Item
	for _, word := range strings.Fields(s) {
		row, col, _ := strings.Cut(word, "/")
		items = append(items, api.Item{Row: span(t, row), Col: span(t, col)})
	}
	return items
}

// long tells how many tracks a span has.
func long(s api.Span) int {
	if s.Auto {
		return s.N
	}
	return s.To - s.From
}

// readCells tells the cells of items, as text tells them: row and column with / between.
func readCells(t *testing.T, items []api.Item, s string) []api.Cell {
	t.Helper()
	words := strings.Fields(s)
	if len(words) != len(items) {
		t.Fatal(s)
	}
	var cells []api.Cell
	for i, word := range words {
		row, col, _ := strings.Cut(word, "/")
		cells = append(cells, api.Cell{Row: number(t, row), Col: number(t, col), Rows: long(items[i].Row), Cols: long(items[i].Col)})
	}
	return cells
}

func turnedItems(items []api.Item) []api.Item {
	l := slices.Clone(items)
	for i, v := range items {
		l[i] = api.Item{Row: v.Col, Col: v.Row}
	}
	return l
}

func turnedCells(cells []api.Cell) []api.Cell {
	l := slices.Clone(cells)
	for i, c := range cells {
		l[i] = api.Cell{Row: c.Col, Col: c.Row, Rows: c.Cols, Cols: c.Rows}
	}
	return l
}

// hold holds Place by rows, and of turned items by columns, against what it should tell.
func hold(t *testing.T, items []api.Item, cols int, dense bool, want []api.Cell, fault api.Errno) {
	t.Helper()
	if got, e := place.Place(items, 7, cols, false, dense); e != fault || !slices.Equal(got, want) {
		t.Errorf("%v in %d columns, dense %v: %v, %d, not %v, %d", items, cols, dense, got, int(e), want, int(fault))
	}
	want = turnedCells(want)
	if got, e := place.Place(turnedItems(items), cols, 7, true, dense); e != fault || !slices.Equal(got, want) {
		t.Errorf("%v turned in %d rows, dense %v: %v, %d, not %v, %d", items, cols, dense, got, int(e), want, int(fault))
	}
}

// mark is where something was looked for.
type mark struct{ row, col int }

// ground is a grid on which items are put as the document tells it, one line after the other.
type ground struct {
	dense            bool
	first, last, top int
	at               mark
	put              []api.Cell
}

func (g *ground) free(c api.Cell) bool {
	for _, b := range g.put {
		if b.Row < c.Row+c.Rows && c.Row < b.Row+b.Rows && b.Col < c.Col+c.Cols && c.Col < b.Col+b.Cols {
			return false
		}
	}
	return true
}

// right goes column by column.
func (g *ground) right(c api.Cell, end int) (api.Cell, bool) {
	for ; c.Col+c.Cols <= end; c.Col++ {
		if g.free(c) {
			return c, true
		}
	}
	return api.Cell{}, false
}

// down goes row by row.
func (g *ground) down(c api.Cell) (api.Cell, bool) {
	for ; c.Row+c.Rows <= most; c.Row++ {
		if g.free(c) {
			return c, true
		}
	}
	return api.Cell{}, false
}

// fourth finds a cell in the fourth of the document's steps.
func (g *ground) fourth(item api.Item) (api.Cell, bool) {
	rows, cols := long(item.Row), long(item.Col)
	if !item.Col.Auto {
		row := g.at.row
		if item.Col.From < g.at.col {
			row++
		}
		if g.dense {
			row = g.top
		}
		return g.down(api.Cell{Row: row, Col: item.Col.From, Rows: rows, Cols: cols})
	}
	from := g.at
	if g.dense {
		from = mark{g.top, g.first}
	}
	for ; from.row+rows <= most; from = (mark{from.row + 1, g.first}) {
		if c, is := g.right(api.Cell{Row: from.row, Col: from.col, Rows: rows, Cols: cols}, g.last); is {
			return c, true
		}
	}
	return api.Cell{}, false
}

// lines sets First, Top, and Last as far as it hangs on nothing that is put.
func (g *ground) lines(items []api.Item, cols int) {
	g.last = cols
	for _, v := range items {
		if !v.Col.Auto {
			g.first, g.last = min(g.first, v.Col.From), max(g.last, v.Col.To)
		}
		if !v.Row.Auto {
			g.top = min(g.top, v.Row.From)
		}
	}
	g.at = mark{g.top, g.first}
}

// second does the second step, with what it changes of Last.
func (g *ground) second(items []api.Item, cells []api.Cell) bool {
	ends := map[int]int{}
	for i, v := range items {
		if v.Row.Auto || !v.Col.Auto {
			continue
		}
		c := api.Cell{Row: v.Row.From, Col: g.first, Rows: long(v.Row), Cols: v.Col.N}
		if end, is := ends[v.Row.From]; is && !g.dense {
			c.Col = end
		}
		c, is := g.right(c, most)
		if !is {
			return false
		}
		g.put, cells[i] = append(g.put, c), c
		ends[v.Row.From] = c.Col + c.Cols // only asked without dense, where each stands behind those ahead of it
	}
	return true
}

// plain tells what Place should, by rows.
func plain(items []api.Item, cols int, dense bool) ([]api.Cell, api.Errno) {
	g := &ground{dense: dense}
	g.lines(items, cols)
	cells := make([]api.Cell, len(items))
	for i, v := range items {
		if !v.Row.Auto && !v.Col.Auto {
			cells[i] = api.Cell{Row: v.Row.From, Col: v.Col.From, Rows: long(v.Row), Cols: long(v.Col)}
			g.put = append(g.put, cells[i])
		}
	}
	begun := len(g.put)
	if !g.second(items, cells) {
		return nil, api.ErrFull
	}
	for _, c := range g.put[begun:] {
		g.last = max(g.last, c.Col+c.Cols)
	}
	for _, v := range items {
		if v.Col.Auto {
			g.last = max(g.last, g.first+v.Col.N)
		}
	}
	for i, v := range items {
		if !v.Row.Auto {
			continue
		}
		c, is := g.fourth(v)
		if !is {
			return nil, api.ErrFull
		}
		g.put, cells[i] = append(g.put, c), c
		g.at = mark{c.Row, c.Col}
	}
	return cells, api.OK
}
