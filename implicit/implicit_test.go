package implicit_test

import (
	"math"
	"slices"
	"testing"

	"parterre/api"
	"parterre/implicit"
)

func TestExample(t *testing.T) {
	const a, x, y = 1, 2, 3
	all := tracks(t, axis(a), 2, several(x, y), []api.Cell{row(-1, 4)}, 0)
	if all.Low != -1 || !slices.Equal(all.List, several(y, a, x, y)) {
		t.Error(all)
	}
}

func TestBounds(t *testing.T) { // P21.1
	for _, x := range []struct {
		l                []api.Cell
		lines, low, high int
	}{
		{nil, 1, 0, 0}, {nil, 2, 0, 1}, {nil, 9, 0, 8}, {nil, most + 1, 0, most}, {[]api.Cell{}, 3, 0, 2},
		// within, up to an end, beyond it
		{[]api.Cell{row(0, 1)}, 2, 0, 1}, {[]api.Cell{row(1, 2)}, 9, 0, 8}, {[]api.Cell{row(6, 2)}, 9, 0, 8}, {[]api.Cell{row(7, 2)}, 9, 0, 9}, {[]api.Cell{row(0, 1)}, 1, 0, 1}, {[]api.Cell{row(5, 1)}, 1, 0, 6}, {[]api.Cell{row(-1, 1)}, 1, -1, 0}, {[]api.Cell{row(-1, 1)}, 5, -1, 4}, {[]api.Cell{row(-5, 2)}, 5, -5, 4}, {[]api.Cell{row(-5, 20)}, 5, -5, 15},
		// several
		{[]api.Cell{row(-2, 1), row(8, 1), row(1, 1)}, 5, -2, 9}, {[]api.Cell{row(8, 1), row(-2, 1), row(-1, 1)}, 5, -2, 9}, {[]api.Cell{row(1, 1), row(3, 5), row(4, 2)}, 5, 0, 8}, {[]api.Cell{row(-3, 1), row(-2, 1)}, 3, -3, 2}, {[]api.Cell{row(2, 1), row(2, 1)}, 1, 0, 3},
		// the farthest ones
		{[]api.Cell{row(-most, 1)}, 1, -most, 0}, {[]api.Cell{row(-most, 2*most)}, 1, -most, most}, {[]api.Cell{row(most, 1)}, 1, 0, most + 1}, {[]api.Cell{row(most, 2*most)}, 1, 0, 3 * most}, {[]api.Cell{row(most, 2*most), row(-most, 1)}, most + 1, -most, 3 * most},
		// numbers of lines that are none
		{nil, 0, 0, -1}, {nil, -1, 0, -2}, {nil, -most, 0, -most - 1}, {nil, math.MinInt + 1, 0, math.MinInt}, {nil, math.MinInt, 0, math.MinInt}, {nil, math.MaxInt, 0, math.MaxInt - 1}, {nil, 9 * most, 0, 9*most - 1},
		{[]api.Cell{row(2, 3)}, 0, 0, 5}, {[]api.Cell{row(2, 3)}, math.MinInt, 0, 5}, {[]api.Cell{row(2, 3)}, math.MaxInt, 0, math.MaxInt - 1}, {[]api.Cell{row(-5, 2)}, 0, -5, -1}, {[]api.Cell{row(-5, 2)}, -1, -5, -2}, {[]api.Cell{row(-5, 2)}, -2, -5, -3}, {[]api.Cell{row(-5, 2)}, -9, -5, -3}, {[]api.Cell{row(-5, 2), row(-9, 1)}, math.MinInt, -9, -3},
	} {
		bounds(t, x.l, x.lines, x.low, x.high)
		bounds(t, append(wrongCells(), x.l...), x.lines, x.low, x.high)
		bounds(t, append(slices.Clone(x.l), wrongCells()...), x.lines, x.low, x.high)
	}
}

func bounds(t *testing.T, l []api.Cell, lines, low, high int) {
	t.Helper()
	if a, b := implicit.Bounds(l, lines, true); a != low || b != high {
		t.Errorf("%v, %d: %d, %d", l, lines, a, b)
	}
	if a, b := implicit.Bounds(turned(l), lines, false); a != low || b != high {
		t.Errorf("%v, %d, turned: %d, %d", l, lines, a, b)
	}
}

func TestList(t *testing.T) { // P21.2: which track stands where
	for _, x := range []struct {
		a     api.Axis
		lines int
		auto  []api.Track
		l     []api.Cell
		low   int
		want  []int
	}{
		{axis(), 1, several(7), nil, 0, nil},
		{axis(1), 2, several(7), nil, 0, []int{1}},
		{axis(1, 2, 3), 4, several(7), []api.Cell{row(0, 3)}, 0, []int{1, 2, 3}},
		// lines that areas have beside tracks
		{axis(), 4, several(7, 8), nil, 0, []int{7, 8, 7}}, {axis(1), 5, several(7, 8), nil, 0, []int{1, 7, 8, 7}}, {axis(1, 2), 4, several(7), []api.Cell{row(0, 1)}, 0, []int{1, 2, 7}},
		// behind them
		{axis(1), 2, several(7), []api.Cell{row(1, 3)}, 0, []int{1, 7, 7, 7}}, {axis(1), 2, several(7, 8), []api.Cell{row(3, 1)}, 0, []int{1, 7, 8, 7}}, {axis(1, 2), 4, several(7, 8, 9), []api.Cell{row(6, 1)}, 0, []int{1, 2, 7, 8, 9, 7, 8}}, {axis(), 1, several(7, 8, 9), []api.Cell{row(0, 4)}, 0, []int{7, 8, 9, 7}},
		// ahead of them
		{axis(1), 2, several(7), []api.Cell{row(-3, 1)}, -3, []int{7, 7, 7, 1}}, {axis(1), 2, several(7, 8), []api.Cell{row(-1, 1)}, -1, []int{8, 1}}, {axis(1), 2, several(7, 8), []api.Cell{row(-2, 1)}, -2, []int{7, 8, 1}}, {axis(1), 2, several(7, 8), []api.Cell{row(-5, 1)}, -5, []int{8, 7, 8, 7, 8, 1}}, {axis(), 1, several(7, 8, 9), []api.Cell{row(-4, 2)}, -4, []int{9, 7, 8, 9}},
		// on both sides
		{axis(1, 2), 3, several(7, 8, 9), []api.Cell{row(-4, 10)}, -4, []int{9, 7, 8, 9, 1, 2, 7, 8, 9, 7}}, {axis(), 1, several(7, 8), []api.Cell{row(-3, 6)}, -3, []int{8, 7, 8, 7, 8, 7}}, {axis(), 2, several(7, 8), []api.Cell{row(-1, 1), row(2, 1)}, -1, []int{8, 7, 8, 7}}, {axis(1, 2, 3), 4, several(7, 8), []api.Cell{row(-1, 5)}, -1, []int{8, 1, 2, 3, 7}},
	} {
		for _, l := range [][]api.Cell{x.l, append(wrongCells(), x.l...)} {
			all := tracks(t, x.a, x.lines, x.auto, l, 5)
			if all.Low != x.low || !slices.Equal(all.List, several(x.want...)) {
				t.Errorf("%v, %d, %v: %v", x.a.Tracks, x.lines, x.l, all)
			}
			for i := range all.List {
				if all.Gone[i] || all.Ahead[i] != 5*min(i, 1) {
					t.Errorf("%v, %d, %v: %v", x.a.Tracks, x.lines, x.l, all)
				}
			}
		}
	}
}

// picture tells of each track: "-" that it is Gone, "." that it has no gap ahead, "|" that it has one.
func picture(x api.Tracks, gap int) string {
	var b []byte
	for i, n := range x.Ahead {
		switch {
		case x.Gone[i] && n == 0:
			b = append(b, '-')
		case !x.Gone[i] && n == 0:
			b = append(b, '.')
		case !x.Gone[i] && n == gap:
			b = append(b, '|')
		default:
			b = append(b, '?')
		}
	}
	return string(b)
}

func TestGone(t *testing.T) { // P21.2, P21.4: tracks that nobody stands in, and gaps beside them
	for _, x := range []struct {
		a     api.Axis
		lines int
		l     []api.Cell
		want  string
	}{
		// none is an auto-fit's
		{fitted(4, 0, 0), 5, nil, ".|||"}, {fitted(4, 0, 0), 5, []api.Cell{row(2, 1)}, ".|||"},
		// all are
		{fitted(4, 0, 4), 5, nil, "----"}, {fitted(4, 0, 4), 5, []api.Cell{row(0, 4)}, ".|||"}, {fitted(4, 0, 4), 5, []api.Cell{row(0, 1)}, ".---"}, {fitted(4, 0, 4), 5, []api.Cell{row(1, 1)}, "-.--"}, {fitted(4, 0, 4), 5, []api.Cell{row(3, 1)}, "---."}, {fitted(4, 0, 4), 5, []api.Cell{row(1, 2)}, "-.|-"}, {fitted(4, 0, 4), 5, []api.Cell{row(0, 1), row(3, 1)}, ".--|"}, {fitted(4, 0, 4), 5, []api.Cell{row(3, 1), row(1, 1)}, "-.-|"}, {fitted(4, 0, 4), 5, []api.Cell{row(0, 2), row(1, 2)}, ".||-"}, {fitted(4, 0, 4), 5, []api.Cell{row(1, 1), row(1, 1)}, "-.--"}, {fitted(4, 0, 4), 5, []api.Cell{row(0, 3), row(1, 1)}, ".||-"},
		// some are
		{fitted(4, 1, 3), 5, nil, ".--|"}, {fitted(4, 1, 3), 5, []api.Cell{row(0, 1), row(3, 1)}, ".--|"}, {fitted(4, 1, 3), 5, []api.Cell{row(1, 1)}, ".|-|"}, {fitted(4, 1, 3), 5, []api.Cell{row(2, 1)}, ".-||"}, {fitted(4, 1, 3), 5, []api.Cell{row(0, 2)}, ".|-|"}, {fitted(4, 1, 3), 5, []api.Cell{row(2, 2)}, ".-||"}, {fitted(4, 1, 3), 5, []api.Cell{row(1, 2)}, ".|||"}, {fitted(4, 0, 1), 5, nil, "-.||"}, {fitted(4, 3, 4), 5, nil, ".||-"}, {fitted(4, 0, 2), 5, []api.Cell{row(0, 1)}, ".-||"},
		// beside implicit ones, which are never Gone
		{fitted(2, 0, 2), 3, []api.Cell{row(-2, 1)}, ".|--"}, {fitted(2, 0, 2), 3, []api.Cell{row(3, 1)}, "--.|"}, {fitted(2, 0, 2), 3, []api.Cell{row(-1, 1), row(2, 1)}, ".--|"}, {fitted(2, 0, 2), 3, []api.Cell{row(-2, 3)}, ".||-"}, {fitted(2, 0, 2), 3, []api.Cell{row(1, 3)}, "-.||"}, {fitted(2, 0, 2), 3, []api.Cell{row(-1, 4)}, ".|||"}, {fitted(2, 0, 2), 5, nil, "--.|"}, {fitted(3, 1, 2), 4, []api.Cell{row(-1, 1), row(3, 1)}, ".|-||"},
		// the farthest cells
		{fitted(2, 0, 2), 3, []api.Cell{{Row: 0, Rows: 1, Col: most, Cols: 2 * most}}, ".-"}, {fitted(2, 0, 2), 3, []api.Cell{{Row: 1, Rows: 1, Col: -most, Cols: 1}}, "-."},
	} {
		for _, gap := range []int{1, 640, api.MaxPx} {
			for _, l := range [][]api.Cell{x.l, append(wrongCells(), x.l...), append(slices.Clone(x.l), wrongCells()...)} {
				if all := tracks(t, x.a, x.lines, several(7), l, gap); picture(all, gap) != x.want {
					t.Errorf("%d to %d of %d, %v: %s, not %s", x.a.From, x.a.To, len(x.a.Tracks), l, picture(all, gap), x.want)
				}
			}
		}
		if all := tracks(t, x.a, x.lines, several(7), x.l, 0); slices.Max(all.Ahead) != 0 {
			t.Error(all)
		}
	}
}

func TestTracksWrong(t *testing.T) { // P21.2
	good := axis(1, 2)
	for _, a := range []api.Axis{{}, {Lines: good.Lines}, {Tracks: good.Tracks}, {Lines: make([][]string, 2), Tracks: good.Tracks}, {Lines: make([][]string, 4), Tracks: good.Tracks}, fitted(2, 0, 3), fitted(2, 1, 1), fitted(2, 2, 1), fitted(2, -1, 1), fitted(2, 1, 0), fitted(most+1, 0, 0)} {
		for _, lines := range []int{1, 2, 3, 4, most + 1} {
			wrong(t, a, lines, several(7), 5)
		}
	}
	for _, x := range noTracks() {
		wrong(t, api.Axis{Lines: make([][]string, 3), Tracks: []api.Track{x, one(1)}}, 3, several(7), 5)
		wrong(t, api.Axis{Lines: make([][]string, 3), Tracks: []api.Track{one(1), x}}, 3, several(7), 5)
		wrong(t, good, 3, []api.Track{x}, 5)
		wrong(t, good, 3, []api.Track{x, one(7)}, 5)
		wrong(t, good, 3, append(slices.Repeat(several(7), api.MaxPieces-1), x), 5)
	}
	for _, lines := range []int{math.MinInt, -1, 0, 1, 2, most + 2, 2 * most, math.MaxInt} {
		wrong(t, good, lines, several(7), 5)
	}
	for _, lines := range []int{math.MinInt, -1, 0, most + 2, math.MaxInt} {
		wrong(t, axis(), lines, several(7), 5)
	}
	wrong(t, fitted(most, 0, 0), most, several(7), 5)
	wrong(t, good, 3, nil, 5)
	wrong(t, good, 3, []api.Track{}, 5)
	wrong(t, good, 3, slices.Repeat(several(7), api.MaxPieces+1), 5)
	for _, gap := range noGaps() {
		wrong(t, good, 3, several(7), gap)
		wrong(t, axis(), 1, several(7), gap)
	}
}

func TestTracksLimits(t *testing.T) { // P21.2, P21.3: as many as may be
	many := make([]int, api.MaxPieces)
	for i := range many {
		many[i] = 10 + i
	}
	auto := several(many...)
	far := []api.Cell{row(most, 2*most), row(-most, 1)}
	all := tracks(t, fitted(most, 0, most), most+1, auto, far, api.MaxPx)
	if all.Low != -most || len(all.List) != 4*most || all.List[most] != one(1) || all.List[2*most-1] != one(1) || all.List[2*most] != auto[0] || all.List[most-1] != auto[api.MaxPieces-1] {
		t.Error(all.Low, len(all.List))
	}
	if all.List[0] != auto[api.MaxPieces-1-(most-1)%api.MaxPieces] || all.List[4*most-1] != auto[(2*most-1)%api.MaxPieces] {
		t.Error(all.List[0], all.List[4*most-1])
	}
	if n := implicit.Total(all); n != (3*most-1)*api.MaxPx {
		t.Error(n)
	}
	if all = tracks(t, axis(), most+1, auto, far, 1); len(all.List) != 4*most || implicit.Total(all) != 4*most-1 || all.List[most] != auto[0] {
		t.Error(len(all.List), implicit.Total(all))
	}
	if all = tracks(t, axis(), most+1, several(7), nil, 1); len(all.List) != most {
		t.Error(len(all.List))
	}
}

// fine is tracks that may be.
func fine() api.Tracks {
	return api.Tracks{Low: -1, List: several(1, 2, 3, 4), Gone: []bool{false, true, false, false}, Ahead: []int{0, 0, 5, 5}}
}

func TestGood(t *testing.T) { // P21.3
	for i, change := range []func(*api.Tracks){
		func(x *api.Tracks) {},
		func(x *api.Tracks) { *x = api.Tracks{} },
		func(x *api.Tracks) { *x = api.Tracks{List: []api.Track{}, Gone: []bool{}, Ahead: []int{}} },
		func(x *api.Tracks) { x.Low = 0 }, func(x *api.Tracks) { x.Low = -most },
		func(x *api.Tracks) { x.Ahead[2] = 0 }, func(x *api.Tracks) { x.Ahead[2] = api.MaxPx }, func(x *api.Tracks) { x.Ahead[3] = 9 },
		func(x *api.Tracks) { x.Gone[0] = true }, func(x *api.Tracks) { x.Gone[1] = false },
		func(x *api.Tracks) {
			x.List = []api.Track{{Min: api.Len{Kind: api.LenAuto}, Max: api.Len{Kind: api.LenFr, N: 1}}, one(0), one(api.MaxPx), {Min: api.Len{Kind: api.LenAuto}, Max: api.Len{Kind: api.LenMax}, Fit: true, Limit: px(1)}}
		},
		func(x *api.Tracks) { *x = manyTracks(4 * most) },
	} {
		x := fine()
		if change(&x); !implicit.Good(x) {
			t.Error(i)
		}
	}
}

func manyTracks(n int) api.Tracks {
	return api.Tracks{List: slices.Repeat(several(1), n), Gone: make([]bool, n), Ahead: make([]int, n)}
}

func TestGoodNot(t *testing.T) { // P21.3
	changes := []func(*api.Tracks){
		func(x *api.Tracks) { x.Low = 1 }, func(x *api.Tracks) { x.Low = -most - 1 }, func(x *api.Tracks) { x.Low = math.MinInt }, func(x *api.Tracks) { x.Low = math.MaxInt },
		func(x *api.Tracks) { *x = api.Tracks{Low: 1} }, func(x *api.Tracks) { *x = api.Tracks{Low: -most - 1} },
		func(x *api.Tracks) { x.Ahead[0] = 1 }, func(x *api.Tracks) { x.Ahead[1] = 1 }, func(x *api.Tracks) { x.Gone[2] = true }, func(x *api.Tracks) { x.Gone[3] = true },
		func(x *api.Tracks) { x.List = x.List[:3] }, func(x *api.Tracks) { x.Gone = x.Gone[:3] }, func(x *api.Tracks) { x.Ahead = x.Ahead[:3] }, func(x *api.Tracks) { x.List = nil }, func(x *api.Tracks) { x.Gone = nil }, func(x *api.Tracks) { x.Ahead = nil },
		func(x *api.Tracks) { x.List = append(x.List, one(1)) }, func(x *api.Tracks) { x.Gone = append(x.Gone, false) }, func(x *api.Tracks) { x.Ahead = append(x.Ahead, 0) },
		func(x *api.Tracks) { *x = manyTracks(4*most + 1) },
	}
	for _, n := range noGaps() {
		for i := range 4 {
			changes = append(changes, func(x *api.Tracks) { x.Ahead[i] = n })
		}
	}
	for _, size := range noTracks() {
		for i := range 4 {
			changes = append(changes, func(x *api.Tracks) { x.List[i] = size })
		}
	}
	for i, change := range changes {
		x := fine()
		if change(&x); implicit.Good(x) {
			t.Error(i)
		}
	}
}

func TestTotal(t *testing.T) { // P21.3: of tracks that are not Good, too
	for _, x := range []struct {
		ahead []int
		want  int
	}{
		{nil, 0}, {[]int{0}, 0}, {[]int{0, 5, 0, 6}, 11}, {[]int{7}, 7}, {[]int{0, api.MaxPx, api.MaxPx}, 2 * api.MaxPx}, {[]int{-3, 1}, -2}, {[]int{-1}, -1}, {[]int{1<<32 - 1, 1}, 1 << 32}, {[]int{-1 << 32, -1}, -1<<32 - 1},
		{[]int{math.MaxInt}, math.MaxInt}, {[]int{math.MinInt}, math.MinInt}, {[]int{math.MaxInt, math.MinInt}, -1}, {[]int{math.MaxInt, 5, -5}, math.MaxInt}, {[]int{math.MinInt, -5, 6}, math.MinInt + 1}, {[]int{math.MaxInt, math.MaxInt, math.MinInt, math.MinInt, 9}, 7}, {[]int{math.MaxInt - 5, 5}, math.MaxInt}, {[]int{math.MaxInt - 7, 1}, math.MaxInt - 6}, {[]int{math.MinInt + 5, -5}, math.MinInt},
		{[]int{math.MaxInt, 1}, math.MaxInt}, {[]int{math.MinInt, -1}, math.MinInt}, {[]int{math.MaxInt, math.MaxInt, math.MaxInt}, math.MaxInt}, {[]int{math.MinInt, math.MinInt}, math.MinInt},
	} {
		if n := implicit.Total(api.Tracks{Ahead: x.ahead}); n != x.want {
			t.Error(x.ahead, n)
		}
	}
	if n := implicit.Total(fine()); n != 10 {
		t.Error(n)
	}
}
