package place

import "parterre/api"

// sweep is a search down the rows that counts, at each column, how many cells are in an item's way. A dense search may pass all cells once for each item; so what a row costs must not hang on how many stand in it.
type sweep struct {
	begins, stops []api.Cell // those that are still to come
	row           int        // what ended ahead of this row is not counted
	first         int
	size          api.Cell // the item's
	columns       *cover
}

// newSweep tells a search for an item without a fixed line, from a row on.
func (b *board) newSweep(item api.Item, row int) *sweep {
	return &sweep{
		begins:  b.begins,
		stops:   b.stopsBehind(row),
		row:     row,
		first:   b.first,
		size:    cell(item, cursor{}),
		columns: newCover(b.last - b.first - item.Col.N + 1),
	}
}

// down goes on to a row.
func (s *sweep) down(row int) {
	for len(s.begins) > 0 && s.begins[0].Row < row+s.size.Rows {
		if behind(s.begins[0]) > s.row {
			s.count(s.begins[0], 1)
		}
		s.begins = s.begins[1:]
	}
	for len(s.stops) > 0 && behind(s.stops[0]) <= row {
		s.count(s.stops[0], -1)
		s.stops = s.stops[1:]
	}
}

// count adds a number at the columns at which the item would share one with a cell.
func (s *sweep) count(c api.Cell, n int) {
	at := c.Col - s.first
	s.columns.add(s.columns.whole(), at-s.size.Cols+1, at+c.Cols, n)
}

// free tells the least column at which nothing is in the way.
func (s *sweep) free() (int, bool) {
	at, is := s.columns.free(s.columns.whole())
	return at + s.first, is
}
