package implicit_test

import (
	"math"
	"slices"
	"testing"

	"parterre/api"
	"parterre/implicit"
	"parterre/occupy"
)

const most = api.MaxLine

func px(n int) api.Len { return api.Len{Kind: api.LenPx, N: n} }

// one is a track that is told from others by its length.
func one(n int) api.Track { return api.Track{Min: px(n), Max: px(n)} }

// several are tracks of these lengths.
func several(l ...int) []api.Track {
	tracks := make([]api.Track, len(l))
	for i, n := range l {
		tracks[i] = one(n)
	}
	return tracks
}

// axis is an explicit grid of tracks of these lengths.
func axis(l ...int) api.Axis {
	return api.Axis{Lines: make([][]string, len(l)+1), Tracks: several(l...)}
}

// fitted is an axis of so many tracks, of which some are an auto-fit's.
func fitted(count, from, to int) api.Axis {
	a := axis(slices.Repeat([]int{1}, count)...)
	a.From, a.To = from, to
	return a
}

// row is a cell that begins at a row and has so many of them; what it has of columns tells nothing of rows.
func row(at, count int) api.Cell { return api.Cell{Row: at, Rows: count, Col: -7, Cols: 99} }

// wrongCells are cells that are not right, along this axis or along the other one.
func wrongCells() []api.Cell {
	l := []api.Cell{{}}
	for _, n := range []int{math.MinInt, -most - 1, most + 1, math.MaxInt} {
		l = append(l, api.Cell{Row: n, Rows: 5, Cols: 1}, api.Cell{Row: -9, Col: n, Rows: 50, Cols: 1}, api.Cell{Row: n, Col: n, Rows: 1, Cols: 1})
	}
	for _, n := range []int{math.MinInt, -1, 0, 2*most + 1, math.MaxInt} {
		l = append(l, api.Cell{Row: -9, Rows: n, Cols: 1}, api.Cell{Row: -9, Rows: 50, Cols: n}, api.Cell{Row: most, Rows: n, Cols: n})
	}
	return l
}

func turned(l []api.Cell) []api.Cell {
	var turned []api.Cell
	for _, c := range l {
		turned = append(turned, occupy.Turn(c))
	}
	return turned
}

// noTracks are sizes of tracks that may not be.
func noTracks() []api.Track {
	return []api.Track{{}, {Min: px(1)}, {Max: px(1)}, one(-1), one(api.MaxPx + 1), {Min: px(1), Max: px(1), Limit: px(1)}, {Min: px(1), Max: px(1), Fit: true, Limit: px(1)}, {Min: api.Len{Kind: api.LenFr, N: 1}, Max: px(1)}}
}

// noGaps are gaps that may not be.
func noGaps() []int {
	return []int{math.MinInt, -api.MaxPx - 1, -api.MaxPx, -1, api.MaxPx + 1, math.MaxInt}
}

func same(a, b api.Tracks) bool {
	return a.Low == b.Low && slices.Equal(a.List, b.List) && slices.Equal(a.Gone, b.Gone) && slices.Equal(a.Ahead, b.Ahead)
}

// tracks tells those along the rows, which must be those of the cells that are turned along the columns.
func tracks(t *testing.T, a api.Axis, lines int, auto []api.Track, l []api.Cell, gap int) api.Tracks {
	t.Helper()
	x, e := implicit.Tracks(a, lines, auto, l, true, gap)
	y, f := implicit.Tracks(a, lines, auto, turned(l), false, gap)
	if e != api.OK || f != api.OK || !same(x, y) {
		t.Fatalf("%.200v, %d, %.200v: %d, %d", a, lines, l, int(e), int(f))
	}
	if !implicit.Good(x) {
		t.Fatalf("%.200v, %d, %.200v: not Good", a, lines, l)
	}
	return x
}

// wrong holds that there are no tracks.
func wrong(t *testing.T, a api.Axis, lines int, auto []api.Track, gap int) {
	t.Helper()
	for _, rows := range []bool{false, true} {
		for _, l := range [][]api.Cell{nil, {row(-3, 9)}, wrongCells()} {
			x, e := implicit.Tracks(a, lines, auto, l, rows, gap)
			if e != api.ErrArg || x.Low != 0 || len(x.List)+len(x.Gone)+len(x.Ahead) != 0 {
				t.Errorf("%.200v, %d, %.200v, %d: %.200v, %d", a, lines, auto, gap, x, int(e))
			}
		}
	}
}
