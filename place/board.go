package place

import (
	"cmp"
	"iter"
	"slices"

	"parterre/api"
	"parterre/occupy"
)

// cursor is where a search begins.
type cursor struct{ row, col int }

// finder tells where an item stands, unless there is no room.
type finder func(api.Item) (api.Cell, bool)

// board is a grid with what was put on it so far.
type board struct {
	dense            bool
	top, first, last int
	at               cursor
	begins, stops    []api.Cell          // all cells, by the rows where they begin, and behind which they end
	ends             map[int]int         // of each row: behind what was put into it by its row alone
	stood            map[api.Item]cursor // where the last one of items that are alike stands
}

// newBoard tells a board with nothing on it. What a span does not tell is 0 in it, which changes none of the lines.
func newBoard(items []api.Item, cols int, dense bool) *board {
	b := &board{dense: dense, last: cols, ends: map[int]int{}, stood: map[api.Item]cursor{}}
	widest := 0
	for _, item := range items {
		b.top = min(b.top, item.Row.From)
		b.first = min(b.first, item.Col.From)
		b.last = max(b.last, item.Col.To)
		widest = max(widest, item.Col.N)
	}
	b.last = max(b.last, b.first+widest)
	b.at = cursor{b.top, b.first}
	return b
}

// step is some of the items, and what finds their cells.
type step struct {
	takes func(api.Item) bool
	find  finder
}

// steps yields the places of items in the order in which they are put, each with what finds its cell.
func (b *board) steps(items []api.Item) iter.Seq2[int, finder] {
	all := [3]step{
		{func(v api.Item) bool { return !v.Row.Auto && !v.Col.Auto }, b.byLines},
		{func(v api.Item) bool { return !v.Row.Auto && v.Col.Auto }, b.inRow},
		{func(v api.Item) bool { return v.Row.Auto }, b.inFlow},
	}
	return func(yield func(int, finder) bool) {
		for _, s := range all {
			for i, item := range items {
				if s.takes(item) && !yield(i, s.find) {
					return
				}
			}
		}
	}
}

// put keeps that an item stands somewhere.
func (b *board) put(item api.Item, c api.Cell) {
	b.begins = insert(b.begins, c, func(c api.Cell) int { return c.Row })
	b.stops = insert(b.stops, c, behind)
	b.last = max(b.last, c.Col+c.Cols)
	b.stood[item] = cursor{c.Row, c.Col}
}

// behind tells the row behind a cell.
func behind(c api.Cell) int { return c.Row + c.Rows }

// insert puts a cell among others that are sorted by a line of theirs.
func insert(l []api.Cell, c api.Cell, line func(api.Cell) int) []api.Cell {
	at, _ := slices.BinarySearchFunc(l, line(c), func(c api.Cell, n int) int { return cmp.Compare(line(c), n) })
	return slices.Insert(l, at, c)
}

// cell tells an item's cell, if it stands at a cursor where its lines don't say.
func cell(item api.Item, at cursor) api.Cell {
	c := api.Cell{Row: at.row, Col: at.col, Rows: item.Row.N, Cols: item.Col.N}
	if v := item.Row; !v.Auto {
		c.Row, c.Rows = v.From, v.To-v.From
	}
	if v := item.Col; !v.Auto {
		c.Col, c.Cols = v.From, v.To-v.From
	}
	return c
}

// byLines finds the cell of an item whose lines say all.
func (b *board) byLines(item api.Item) (api.Cell, bool) { return cell(item, cursor{}), true }

// inRow finds the cell of an item with a fixed row alone.
func (b *board) inRow(item api.Item) (api.Cell, bool) {
	c := cell(item, b.densely(item))
	if end, is := b.ends[c.Row]; is && !b.dense {
		c.Col = end
	}
	col, is := occupy.Right(b.begins, c, api.MaxLine)
	c.Col = col
	b.ends[c.Row] = c.Col + c.Cols
	return c, is
}

// densely tells where a search without a cursor begins: no cell gets free again, so an item does not fit ahead of the last one that is alike.
func (b *board) densely(item api.Item) cursor {
	if at, is := b.stood[item]; is {
		return at
	}
	return cursor{b.top, b.first}
}

// inFlow finds the cell of an item without a fixed row, and moves the cursor to it.
func (b *board) inFlow(item api.Item) (api.Cell, bool) {
	from, seek := b.at, b.anywhere
	if !item.Col.Auto {
		seek = b.inColumn
		if item.Col.From < from.col {
			from.row++
		}
	}
	if b.dense {
		from = b.densely(item)
	}
	c, is := seek(item, from)
	b.at = cursor{c.Row, c.Col}
	return c, is
}

// inColumn finds the cell of an item with a fixed column alone.
func (b *board) inColumn(item api.Item, from cursor) (api.Cell, bool) {
	c := cell(item, from)
	row, is := occupy.Down(b.begins, c, api.MaxLine)
	c.Row = row
	return c, is
}

// anywhere finds the cell of an item that has no fixed line.
func (b *board) anywhere(item api.Item, from cursor) (api.Cell, bool) {
	if from.row+item.Row.N > api.MaxLine {
		return api.Cell{}, false
	}
	if col, is := occupy.Right(b.begins, cell(item, from), b.last); is {
		return cell(item, cursor{from.row, col}), true
	}
	return b.below(item, cursor{from.row + 1, b.first})
}

// below finds the cell of an item that has no fixed line from the beginning of a row on.
func (b *board) below(item api.Item, from cursor) (api.Cell, bool) {
	s := b.newSweep(item, from.row)
	for at := range b.spots(from) {
		if at.row+item.Row.N > api.MaxLine {
			break
		}
		s.down(at.row)
		if col, is := s.free(); is {
			return cell(item, cursor{at.row, col}), true
		}
	}
	return api.Cell{}, false
}

// spots yields where a search goes on row by row, each once. Rows at which no cell ends are left out: nothing gets free there.
func (b *board) spots(from cursor) iter.Seq[cursor] {
	return func(yield func(cursor) bool) {
		if !yield(from) {
			return
		}
		last := from
		for _, c := range b.stopsBehind(from.row) {
			at := cursor{behind(c), b.first}
			if at != last && !yield(at) {
				return
			}
			last = at
		}
	}
}

// stopsBehind tells the cells that end neither at a row nor ahead of it.
func (b *board) stopsBehind(row int) []api.Cell {
	at, _ := slices.BinarySearchFunc(b.stops, row+1, func(c api.Cell, n int) int { return cmp.Compare(behind(c), n) })
	return b.stops[at:]
}
