package place_test

import (
	"math"
	"slices"
	"testing"

	"parterre/api"
	"parterre/place"
)

func TestExample(t *testing.T) {
	items := read(t, "1/2 1/1 1/2 1/1")
	hold(t, items, 2, false, readCells(t, items, "0/0 1/0 2/0 3/0"), api.OK)
	hold(t, items, 2, true, readCells(t, items, "0/0 1/0 2/0 1/1"), api.OK)
}

// noSpans are spans that may not be.
func noSpans() []api.Span {
	l := []api.Span{{}, {Auto: true}, {Auto: true, N: 1, From: 1}, {Auto: true, N: 1, To: 1}, {Auto: true, N: 1, From: -1, To: 1}, {From: 0, To: 1, N: 1}, at(0, 0), at(1, 0), at(5, -5), at(-most-1, 0), at(0, most+1), at(most, most+1), at(-most-1, -most), at(math.MinInt, math.MaxInt), at(math.MaxInt, math.MinInt), at(math.MinInt, 0), at(0, math.MaxInt)}
	for _, n := range []int{math.MinInt, -1, 0, most + 1, math.MaxInt} {
		l = append(l, auto(n))
	}
	return l
}

// goodSpans are spans at the edges of what may be.
func goodSpans() []api.Span {
	return []api.Span{auto(1), auto(2), auto(most), at(0, 1), at(-1, 1), at(-most, most), at(-most, -most+1), at(most-1, most)}
}

func wrong(t *testing.T, items []api.Item, rows, cols int) {
	t.Helper()
	for _, column := range []bool{false, true} {
		for _, dense := range []bool{false, true} {
			if l, e := place.Place(items, rows, cols, column, dense); e != api.ErrArg || len(l) != 0 {
				t.Errorf("%d items, %d rows, %d columns, %v, %v: %d cells, %d", len(items), rows, cols, column, dense, len(l), int(e))
			}
		}
	}
}

func TestGood(t *testing.T) { // P20.2, and the errors of P20.1
	if !place.Good(nil) || !place.Good([]api.Item{}) {
		t.Error("none")
	}
	good := api.Item{Row: at(0, 1), Col: auto(1)}
	for _, s := range goodSpans() {
		for _, other := range goodSpans() {
			if !place.Good([]api.Item{{Row: s, Col: other}}) || !place.Good([]api.Item{good, {Row: s, Col: other}, good}) {
				t.Error(s, other)
			}
		}
	}
	for _, s := range noSpans() {
		for _, other := range append(noSpans(), goodSpans()...) {
			for _, v := range []api.Item{{Row: s, Col: other}, {Row: other, Col: s}} {
				for _, items := range [][]api.Item{{v}, {v, good}, {good, v}, {good, v, good}, {v, v}} {
					if place.Good(items) {
						t.Error(items)
					}
					wrong(t, items, 0, 1)
				}
			}
		}
	}
}

func TestMany(t *testing.T) { // P20.1, P20.2: as many as may be, and one more
	ones := slices.Repeat(read(t, "1/1"), api.MaxNodes+1)
	if place.Good(ones) || !place.Good(ones[:api.MaxNodes]) || place.Good(slices.Repeat(ones, 3)) {
		t.Error("good")
	}
	wrong(t, ones, 0, 0)
	for _, cols := range []int{0, 1, 7, most} {
		want := make([]api.Cell, api.MaxNodes)
		for i := range want {
			want[i] = api.Cell{Row: i / max(1, cols), Col: i % max(1, cols), Rows: 1, Cols: 1}
		}
		for _, dense := range []bool{false, true} {
			hold(t, ones[:api.MaxNodes], cols, dense, want, api.OK)
		}
	}
	last := slices.Clone(ones[:api.MaxNodes])
	last[api.MaxNodes-1].Row.N = 0
	if place.Good(last) {
		t.Error("last")
	}
}

func TestCounts(t *testing.T) { // P20.1: rows and cols
	items := read(t, "1/1 1/1 1/1")
	for _, n := range []int{math.MinInt, -most, -1, most + 1, math.MaxInt} {
		for _, other := range []int{math.MinInt, -1, 0, 1, most, most + 1} {
			wrong(t, items, n, other)
			wrong(t, items, other, n)
			wrong(t, nil, n, other)
		}
	}
	for _, n := range []int{0, 1, 2, 3, most - 1, most} {
		wide := min(3, max(1, n))
		var byRow, byColumn []api.Cell
		for i := range items {
			byRow = append(byRow, api.Cell{Row: i / wide, Col: i % wide, Rows: 1, Cols: 1})
		}
		byColumn = turnedCells(byRow)
		for _, other := range []int{0, 1, 2, 3, most} { // along the other axis it changes nothing
			for _, dense := range []bool{false, true} {
				if l, e := place.Place(items, other, n, false, dense); e != api.OK || !slices.Equal(l, byRow) {
					t.Error(other, n, dense, l, int(e))
				}
				if l, e := place.Place(items, n, other, true, dense); e != api.OK || !slices.Equal(l, byColumn) {
					t.Error(n, other, dense, l, int(e))
				}
				if l, e := place.Place(nil, n, other, dense, dense); e != api.OK || len(l) != 0 {
					t.Error(n, other, dense, l, int(e))
				}
			}
		}
	}
}

func TestErrorOrder(t *testing.T) { // P20.1: what may not be is told ahead of what is full
	items := read(t, "10000/1 1/1")
	hold(t, items, 0, false, nil, api.ErrFull)
	wrong(t, items, -1, 0)
	wrong(t, append(items, api.Item{}), 0, 0)
}

func TestFull(t *testing.T) { // P20.1: ErrFull, by each of the steps, and one line ahead of it
	for _, x := range []struct {
		items, sparse, dense string // no text: full
	}{
		// fixed along both axes, as far as may be: never
		{"-10000:10000/-10000:10000 9999:10000/9999:10000 -10000:10000/-10000:10000", "-10000/-10000 9999/9999 -10000/-10000", "-10000/-10000 9999/9999 -10000/-10000"},
		// a fixed row alone
		{"0:1/10000", "0/0", "0/0"},
		{"0:1/0:1 0:1/9999", "0/0 0/1", "0/0 0/1"}, {"0:1/0:1 0:1/10000", "", ""},
		{"0:1/0:9999 0:1/1", "0/0 0/9999", "0/0 0/9999"}, {"0:1/0:10000 0:1/1", "", ""}, {"0:1/0:9999 0:1/2", "", ""},
		{"0:1/9999 0:1/1", "0/0 0/9999", "0/0 0/9999"}, {"0:1/10000 0:1/1", "", ""}, {"0:1/10000 0:2/1", "", ""}, {"0:1/10000 1:2/10000", "0/0 1/0", "0/0 1/0"},
		{"0:1/-1:0 0:1/10000", "0/-1 0/0", "0/-1 0/0"}, {"0:1/-1:0 0:1/10000 0:1/1", "", ""},
		{"5:6/-10000:-9999 0:1/10000 0:1/10000", "5/-10000 0/-10000 0/0", "5/-10000 0/-10000 0/0"}, {"5:6/-10000:-9999 0:1/10000 0:1/10000 0:1/1", "", ""},
		{"0:1/1:2 0:1/9998 0:1/1", "", "0/1 0/2 0/0"}, {"0:1/1:2 0:1/9997 0:1/1", "0/1 0/2 0/9999", "0/1 0/2 0/0"},
		{"0:1/9999:10000 0:1/1", "0/9999 0/0", "0/9999 0/0"}, {"0:1/9998:10000 0:1/9998", "0/9998 0/0", "0/9998 0/0"}, {"0:1/9998:10000 0:1/9999", "", ""},
		{"9999:10000/1 9999:10000/1", "9999/0 9999/1", "9999/0 9999/1"},
		{"-10000:10000/10000 1/0:1", "", ""},
		// a fixed column alone
		{"10000/0:1", "0/0", "0/0"}, {"9999/0:1 1/0:1", "0/0 9999/0", "0/0 9999/0"}, {"10000/0:1 1/0:1", "", ""}, {"9999/0:1 2/0:1", "", ""}, {"1/0:1 10000/0:1", "", ""}, {"1/0:1 9999/0:1", "0/0 1/0", "0/0 1/0"},
		{"0:9999/0:1 1/0:1", "0/0 9999/0", "0/0 9999/0"}, {"0:10000/0:1 1/0:1", "", ""}, {"0:10000/1 1/0:1", "", ""}, {"0:9999/1 1/0:1", "0/0 9999/0", "0/0 9999/0"},
		{"-1:0/0:1 10000/0:1", "-1/0 0/0", "-1/0 0/0"}, {"-1:0/0:1 10000/0:1 1/0:1", "", ""}, {"-10000:-9999/5:6 10000/0:1 10000/0:1", "-10000/5 -10000/0 0/0", "-10000/5 -10000/0 0/0"}, {"-10000:-9999/5:6 10000/0:1 10000/0:1 1/0:1", "", ""},
		{"9999/0:1 1/0:1 1/1:2 1/-1:0", "", "0/0 9999/0 0/1 0/-1"}, {"9998/0:1 1/0:1 1/1:2 1/-1:0", "0/0 9998/0 9998/1 9999/-1", "0/0 9998/0 0/1 0/-1"},
		{"10000/9999:10000 10000/0:1", "", "0/9999 0/0"}, {"10000/9999:10000 9999/0:1", "0/9999 1/0", "0/9999 0/0"},
		// none
		{"10000/10000", "0/0", "0/0"}, {"10000/10000 1/1", "", ""}, {"9999/10000 1/10000", "0/0 9999/0", "0/0 9999/0"}, {"9999/10000 2/1", "", ""},
		{"10000/1 1/1", "", ""}, {"9999/1 1/1", "0/0 9999/0", "0/0 9999/0"}, {"9999/1 1/1 1/1", "", ""}, {"9998/1 1/1 1/1", "0/0 9998/0 9999/0", "0/0 9998/0 9999/0"}, {"1/1 10000/1", "", ""}, {"1/1 9999/1", "0/0 1/0", "0/0 1/0"},
		{"0:10000/0:1 1/1", "", ""}, {"0:9999/0:1 1/1", "0/0 9999/0", "0/0 9999/0"}, {"0:10000/0:1 0:1/5:6 10000/1", "0/0 0/5 0/1", "0/0 0/5 0/1"}, {"0:10000/0:1 0:1/5:6 10000/5", "", ""}, {"0:10000/0:1 0:1/5:6 9999/5", "0/0 0/5 1/1", "0/0 0/5 1/1"},
		{"10000/2 1/2", "", ""}, {"10000/2 1/3", "", ""}, {"10000/2 10000/1 1/3:4", "0/0 0/2 0/3", "0/0 0/2 0/3"}, {"10000/2 10000/1 1/1 1/3:4", "0/0 0/2 0/3 1/3", "0/0 0/2 0/3 1/3"},
		{"-10000:-9999/0:1 10000/1 9999/1", "-10000/0 -9999/0 1/0", "-10000/0 -9999/0 1/0"}, {"-10000:-9999/0:1 10000/1 10000/1", "", ""},
		// none, where the cursor's own row has room, but not down to where it would end
		{"9999/2 1/1 2/1", "", ""}, {"9998/2 1/1 2/1", "0/0 9998/0 9998/1", "0/0 9998/0 9998/1"}, {"9999/1:2 1/2 2/1", "", "0/1 9999/0 0/0"}, {"9997/1:2 1/2 2/1 1/1", "0/1 9997/0 9998/0 9998/1", "0/1 9997/0 0/0 2/0"},
		{"1/1:2 10000/2", "", ""}, {"1/1:2 9999/2", "0/1 1/0", "0/1 1/0"}, {"1/1:2 10000/1", "", "0/1 0/0"}, {"10000/1:2 1/1", "0/1 1/0", "0/1 0/0"},
	} {
		items := read(t, x.items)
		for _, way := range []struct {
			dense bool
			want  string
		}{{false, x.sparse}, {true, x.dense}} {
			if way.want == "" {
				hold(t, items, 0, way.dense, nil, api.ErrFull)
			} else {
				hold(t, items, 0, way.dense, readCells(t, items, way.want), api.OK)
			}
		}
	}
}

func TestUnchanged(t *testing.T) { // rules 4 and 8, and that answers are new memory
	whole := read(t, "1/2 0:1/0:1 1/1 2:3/1 1/1:2 0:1/1:2 1/1 0/0:9")
	for _, column := range []bool{false, true} {
		for _, dense := range []bool{false, true} {
			before := slices.Clone(whole)
			first, e := place.Place(whole[:5], 2, 2, column, dense)
			if e != api.OK || !slices.Equal(whole, before) {
				t.Error(whole, int(e))
			}
			kept := slices.Clone(first)
			clear(first)
			if again, e := place.Place(slices.Clone(whole[:5]), 2, 2, column, dense); e != api.OK || !slices.Equal(again, kept) {
				t.Error(kept, again, int(e))
			}
		}
	}
}
