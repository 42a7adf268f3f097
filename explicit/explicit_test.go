package explicit_test

import (
	"math"
	"slices"
	"strings"
	"testing"

	"parterre/api"
	"parterre/explicit"
	"parterre/style"
)

func TestGap(t *testing.T) { // P17.1
	length := func(kind, n int) api.Len { return api.Len{Kind: kind, N: n} }
	percent := func(n int) api.Len { return length(api.LenPct, n*api.Mille) }
	for _, x := range []struct {
		v         api.Len
		size      int
		n         int // of a definite size
		e         api.Errno
		otherwise int // of a size that is not definite
	}{
		{length(api.LenPx, 0), 100, 0, api.OK, 0},
		{length(api.LenPx, 1), 100, 1, api.OK, 1},
		{length(api.LenPx, 640), 0, 640, api.OK, 640},
		{length(api.LenPx, 640), -1, 640, api.OK, 640},
		{length(api.LenPx, 640), math.MaxInt, 640, api.OK, 640},
		{length(api.LenPx, -1), 100, 0, api.OK, 0},
		{length(api.LenPx, -api.MaxPx), 100, 0, api.OK, 0},
		{length(api.LenPx, math.MinInt), 100, 0, api.OK, 0},
		{length(api.LenPx, api.MaxPx), 100, api.MaxPx, api.OK, api.MaxPx},
		{length(api.LenPx, math.MaxInt), 100, math.MaxInt, api.OK, math.MaxInt}, // asked is no more than that it is px
		{percent(0), 100, 0, api.OK, 0},
		{percent(5), 100, 5, api.OK, 0},
		{percent(5), 119, 5, api.OK, 0},
		{percent(5), 0, 0, api.OK, 0},
		{percent(100), api.MaxPx, api.MaxPx, api.OK, 0},
		{percent(250), 100, 250, api.OK, 0},
		{length(api.LenPct, 1), 99999, 0, api.OK, 0},
		{length(api.LenPct, 1), 100000, 1, api.OK, 0},
		// below 0: what it is a percentage of, or how much
		{percent(-5), 100, 0, api.OK, 0},
		{percent(5), -100, 0, api.OK, 0},
		{percent(-5), -100, 5, api.OK, 0},
		{length(api.LenPct, -1), 1, 0, api.OK, 0},
		{percent(-100), api.MaxPx, 0, api.OK, 0},
		// no length, or of none
		{length(api.LenPct, 100*api.Mille+1), api.MaxPx, 0, api.ErrOver, 0},
		{length(api.LenPct, api.MaxMille), api.MaxPx, 0, api.ErrOver, 0},
		{length(api.LenPct, -api.MaxMille), api.MaxPx, 0, api.ErrOver, 0},
		{length(api.LenPct, api.MaxMille), -api.MaxPx, 0, api.ErrOver, 0},
		{length(api.LenPct, api.MaxMille+1), 100, 0, api.ErrArg, 0},
		{length(api.LenPct, -api.MaxMille-1), 100, 0, api.ErrArg, 0},
		{length(api.LenPct, math.MinInt), 0, 0, api.ErrArg, 0},
		{percent(5), api.MaxPx + 1, 0, api.ErrArg, 0},
		{percent(5), -api.MaxPx - 1, 0, api.ErrArg, 0},
		{percent(5), math.MinInt, 0, api.ErrArg, 0},
		{percent(0), math.MaxInt, 0, api.ErrArg, 0},
	} {
		if n, e := explicit.Gap(x.v, x.size, true); n != x.n || e != x.e {
			t.Errorf("%v of %d: %d, %d, not %d, %d", x.v, x.size, n, int(e), x.n, int(x.e))
		}
		if n, e := explicit.Gap(x.v, x.size, false); n != x.otherwise || e != api.OK {
			t.Errorf("%v of nothing: %d, %d, not %d", x.v, n, int(e), x.otherwise)
		}
	}
	for _, kind := range []int{math.MinInt, -1, 0, api.LenAuto, api.LenMin, api.LenMax, api.LenFr, api.LenNone, 8, math.MaxInt} {
		for _, n := range []int{0, 1, -1, 640, math.MaxInt} {
			for _, is := range []bool{true, false} {
				if n, e := explicit.Gap(length(kind, n), 6400, is); n != 0 || e != api.OK {
					t.Error(kind, n, int(e))
				}
			}
		}
	}
}

func TestExample(t *testing.T) {
	g := grid(t, styled(t, "grid-template-columns: 1fr 1fr; grid-template-areas: 'a a b'"), unknown(), unknown())
	if sizes(g.Cols) != "1fr 1fr" || lines(g.ColNames) != "a-start//a-end b-start/b-end" {
		t.Error(g)
	}
}

func TestGrid(t *testing.T) { // P17.2, of 300px by 500px
	for _, x := range []struct {
		s                  string
		cols, rows         string
		colNames, rowNames string
		gaps               [2]int
	}{
		{"", "", "", "", "", [2]int{}},
		{"grid-template-columns: 1fr [a] 2px", "1fr 2px", "", "/a/", "", [2]int{}},
		{"grid-template-rows: 1fr [a] 2px", "", "1fr 2px", "", "/a/", [2]int{}},
		{"grid-template: [x] 1px [y] / [p] 2px 3px [q r]", "2px 3px", "1px", "p//q r", "x/y", [2]int{}},
		{"column-gap: 3px", "", "", "", "", [2]int{3 * px, 0}},
		{"row-gap: 3px", "", "", "", "", [2]int{0, 3 * px}},
		{"gap: 5% 10%", "", "", "", "", [2]int{30 * px, 25 * px}},
		{"gap: 0 200%", "", "", "", "", [2]int{600 * px, 0}},
		// areas alone; with as many tracks, more, fewer
		{"grid-template-areas: 'a'", "", "", "a-start/a-end", "a-start/a-end", [2]int{}},
		{"grid-template-areas: '. . .' '. . .'", "", "", "///", "//", [2]int{}},
		{"grid-template-areas: 'a a .' 'a a b'", "", "", "a-start//a-end b-start/b-end", "a-start/b-start/a-end b-end", [2]int{}},
		{"grid-template-areas: '. a' '. a' '. .'", "", "", "/a-start/a-end", "a-start//a-end/", [2]int{}},
		{"grid-template: 'a b' 5px 'c c' / 1px 2px", "1px 2px", "5px auto", "a-start c-start/a-end b-start/b-end c-end", "a-start b-start/a-end b-end c-start/c-end", [2]int{}},
		{"grid-template-columns: [x] 1px 2px 3px [y]; grid-template-areas: '. a'", "1px 2px 3px", "", "x/a-start/a-end/y", "a-start/a-end", [2]int{}},
		{"grid-template-rows: [x] 1px 2px 3px [y]; grid-template-areas: '.' 'a'", "", "1px 2px 3px", "a-start/a-end", "x/a-start/a-end/y", [2]int{}},
		{"grid-template-columns: [x] 1px [y]; grid-template-areas: '. a b'", "1px", "", "x/y a-start/a-end b-start/b-end", "a-start b-start/a-end b-end", [2]int{}},
		{"grid-template-rows: [x] 1px [y]; grid-template-areas: '.' 'a' 'b'", "", "1px", "a-start b-start/a-end b-end", "x/y a-start/a-end b-start/b-end", [2]int{}},
		// names of lines ahead of those of areas, the same ones too; areas as they are met
		{"grid-template: [a-start m] 1px [n a-end] / [a-end] 2px [a-start]; grid-template-areas: 'a'", "2px", "1px", "a-end a-start/a-start a-end", "a-start m a-start/n a-end a-end", [2]int{}},
		{"grid-template-areas: 'z y' 'x y'", "", "", "z-start x-start/z-end y-start x-end/y-end", "z-start y-start/z-end x-start/y-end x-end", [2]int{}},
		// what fills, by its own size, with its own gap
		{"grid-template: repeat(auto-fill, [r] 90px) / repeat(auto-fill, [c] 90px)", "90px 90px 90px", "90px 90px 90px 90px 90px", "c/c/c/", "r/r/r/r/r/", [2]int{}},
		{"gap: 10px 70px; grid-template: repeat(auto-fill, 90px) / repeat(auto-fill, 90px)", "90px 90px", "90px 90px 90px 90px 90px", "//", "/////", [2]int{70 * px, 10 * px}},
		{"gap: 10% 10%; grid-template: repeat(auto-fill, 90px) / repeat(auto-fill, 90px)", "90px 90px", "90px 90px 90px", "//", "///", [2]int{30 * px, 50 * px}},
		{"grid-template: repeat(auto-fill, 21%) / repeat(auto-fill, 30%)", "30% 30% 30%", "21% 21% 21% 21%", "///", "////", [2]int{}},
		{"grid-template-columns: [x] 50px repeat(auto-fill, 100px) [y]; grid-template-areas: 'a a b b' 'c . b b'; gap: 10px", "50px 100px 100px", "", "x a-start c-start/c-end/a-end b-start/y/b-end", "a-start b-start/a-end c-start/b-end c-end", [2]int{10 * px, 10 * px}},
	} {
		g := grid(t, styled(t, x.s), definite(300*px), definite(500*px))
		if sizes(g.Cols) != x.cols || sizes(g.Rows) != x.rows || lines(g.ColNames) != x.colNames || lines(g.RowNames) != x.rowNames || [2]int{g.ColGap, g.RowGap} != x.gaps {
			t.Errorf("%s: %q, %q, %q, %q, %d, %d", x.s, sizes(g.Cols), sizes(g.Rows), lines(g.ColNames), lines(g.RowNames), g.ColGap, g.RowGap)
		}
	}
}

func TestGridAxis(t *testing.T) { // P17.2: lines without the areas' names, and what an auto-fit made
	s := styled(t, "grid-template: [r] 10px repeat(auto-fit, 50px) 5px / [p] repeat(auto-fit, [q] 50px) 10px; grid-template-areas: 'a a a'")
	g := grid(t, s, definite(120*px), definite(120*px))
	if lines(g.Cols.Lines) != "p q/q//" || g.Cols.From != 0 || g.Cols.To != 2 || lines(g.ColNames) != "p q a-start/q//a-end" {
		t.Error(g.Cols, g.ColNames)
	}
	if lines(g.Rows.Lines) != "r////" || g.Rows.From != 1 || g.Rows.To != 3 || lines(g.RowNames) != "r a-start/a-end///" {
		t.Error(g.Rows, g.RowNames)
	}
}

func TestGridDefinite(t *testing.T) { // P17.2: each size for itself; what stands in its place where it is not definite doesn't count
	s := styled(t, "grid-template: repeat(auto-fill, 50px) / repeat(auto-fit, 40px); gap: 5%")
	for _, n := range append(noSizes(), 0, 1, 300*px, api.MaxPx) {
		for _, x := range []struct {
			width, height  extent
			cols, rows     int
			colGap, rowGap int
		}{
			{extent{n, false}, extent{n, false}, 1, 1, 0, 0},
			{definite(200 * px), extent{n, false}, 4, 1, 10 * px, 0},
			{extent{n, false}, definite(200 * px), 1, 3, 0, 10 * px},
		} {
			g := grid(t, s, x.width, x.height)
			if len(g.Cols.Tracks) != x.cols || len(g.Rows.Tracks) != x.rows || g.Cols.To != x.cols || g.ColGap != x.colGap || g.RowGap != x.rowGap {
				t.Error(x, g)
			}
		}
	}
	g := grid(t, s, definite(0), definite(0))
	if len(g.Cols.Tracks) != 1 || len(g.Rows.Tracks) != 1 || g.ColGap != 0 || g.RowGap != 0 {
		t.Error(g)
	}
	g = grid(t, s, definite(api.MaxPx), definite(api.MaxPx))
	if len(g.Cols.Tracks) != 20 || len(g.Rows.Tracks) != 20 || g.ColGap != api.MaxPx*5/100 || g.RowGap != api.MaxPx*5/100 {
		t.Error(len(g.Cols.Tracks), len(g.Rows.Tracks), g.ColGap, g.RowGap)
	}
}

func TestGridSizes(t *testing.T) { // P17.2: sizes that a container doesn't have
	s := styled(t, "grid-template: 1px / 1px")
	for _, n := range noSizes() {
		fails(t, s, definite(n), unknown(), api.ErrArg)
		fails(t, s, unknown(), definite(n), api.ErrArg)
		fails(t, s, definite(n), definite(100), api.ErrArg)
		fails(t, s, definite(100), definite(n), api.ErrArg)
		fails(t, s, definite(n), definite(n), api.ErrArg)
	}
	for _, n := range []int{0, 1, api.MaxPx - 1, api.MaxPx} {
		for _, m := range []int{0, 1, api.MaxPx - 1, api.MaxPx} {
			grid(t, s, definite(n), definite(m))
		}
	}
}

func TestGridStyle(t *testing.T) { // P17.2: styles that may not be
	fails(t, api.Style{}, unknown(), unknown(), api.ErrArg)
	for i, change := range []func(s *api.Style){
		func(s *api.Style) { s.Cols = []api.Piece{{}} },
		func(s *api.Style) { s.Rows = []api.Piece{{Kind: api.PieceNames, Names: []string{"a"}}} },
		func(s *api.Style) { s.Areas = [][]string{{"a", "b"}, {"b", "a"}} },
		func(s *api.Style) { s.Areas = [][]string{{"a", "b"}, {"a"}} },
		func(s *api.Style) { s.Areas = [][]string{{}} },
		func(s *api.Style) { s.AutoCols = nil },
		func(s *api.Style) { s.AutoRows = []api.Track{{}} },
		func(s *api.Style) { s.ColGap.N = -1 },
		func(s *api.Style) { s.RowGap = api.Len{Kind: api.LenAuto} },
		func(s *api.Style) { s.JustifyContent = 0 },
		func(s *api.Style) { s.AlignSelf = 10 },
		func(s *api.Style) { s.ColEnd.N = 5 },
		func(s *api.Style) { s.Order = api.MaxOrder + 1 },
		func(s *api.Style) { s.MaxWidth.Kind = api.LenAuto },
		func(s *api.Style) { s.Margin[3].Kind = 0 },
		func(s *api.Style) { s.Content = [][]api.Box{{}} },
	} {
		s := styled(t, "grid-template: 1px / 1px; gap: 1px")
		grid(t, s, definite(6400), unknown())
		change(&s)
		if style.Good(s) {
			t.Error(i)
		}
		fails(t, s, definite(6400), unknown(), api.ErrArg)
	}
	s := styled(t, "width: 5px; height: 1px; order: 3") // a container's own size is asked of nothing but what is handed in
	if g := grid(t, s, unknown(), unknown()); len(g.ColNames) != 1 || len(g.RowNames) != 1 {
		t.Error(g)
	}
}

func TestGridWhichError(t *testing.T) { // P17.2: the first that holds
	const (
		far    = "repeat(auto-fill, 200%)" // no length in MaxPx
		many   = "repeat(10000, 1px) 1px"  // one track too many
		most   = "repeat(10000, 1px)"
		half   = "repeat(auto-fill, 50%)"
		colGap = "; column-gap: 200%" // no length in MaxPx
		rowGap = "; row-gap: 200%"
		cols   = "; grid-template-columns: "
		rows   = "; grid-template-rows: "
	)
	wide, high := definite(api.MaxPx), definite(api.MaxPx)
	for _, x := range []struct {
		s             string
		width, height extent
		want          api.Errno
	}{
		{colGap, wide, unknown(), api.ErrOver},
		{colGap, wide, high, api.ErrOver},
		{rowGap, unknown(), high, api.ErrOver},
		{rowGap, wide, high, api.ErrOver},
		{colGap, definite(-1), high, api.ErrArg},
		{rowGap, wide, definite(-1), api.ErrArg},
		{rowGap, definite(-1), high, api.ErrArg},
		{colGap + cols + many, wide, unknown(), api.ErrOver},
		{rowGap + cols + many, unknown(), high, api.ErrOver},
		{rowGap + cols + many, wide, high, api.ErrOver},
		{colGap + rows + many, wide, high, api.ErrOver},
		{cols + many, unknown(), unknown(), api.ErrLimit},
		{cols + many, wide, high, api.ErrLimit},
		{cols + many, definite(-1), unknown(), api.ErrArg},
		{rows + many, unknown(), unknown(), api.ErrLimit},
		{rows + many, wide, high, api.ErrLimit},
		{rows + many, unknown(), definite(-1), api.ErrArg},
		{cols + far, wide, unknown(), api.ErrOver},
		{rows + far, unknown(), high, api.ErrOver},
		{cols + far + rows + many, wide, high, api.ErrOver},
		{cols + many + rows + far, wide, high, api.ErrLimit},
		{cols + far + rows + many, unknown(), high, api.ErrLimit},
		{cols + many + rows + far, wide, unknown(), api.ErrLimit},
		{cols + half + rows + far, wide, high, api.ErrOver},
		{cols + half + rows + many, wide, high, api.ErrLimit},
	} {
		fails(t, styled(t, x.s), x.width, x.height, x.want)
	}
	g := grid(t, styled(t, colGap+rowGap+"; grid-template: "+far+" / "+most), unknown(), unknown()) // nothing is a percentage of what is not definite
	if g.ColGap != 0 || g.RowGap != 0 || len(g.Rows.Tracks) != 1 || len(g.Cols.Tracks) != api.MaxLine || len(g.ColNames) != api.MaxLine+1 {
		t.Error(len(g.Cols.Tracks), len(g.Rows.Tracks))
	}
}

func TestGridMost(t *testing.T) { // P17.2: the most tracks, and the most areas
	row := strings.TrimSpace(strings.Repeat("a ", api.MaxAreas))
	areas := "grid-template-areas: " + strings.Repeat("'"+row+"' ", api.MaxAreas)
	g := grid(t, styled(t, areas), unknown(), unknown())
	if len(g.ColNames) != api.MaxAreas+1 || len(g.RowNames) != api.MaxAreas+1 || len(g.Cols.Tracks)+len(g.Rows.Tracks) > 0 {
		t.Error(g)
	}
	g = grid(t, styled(t, areas+"; grid-template-rows: repeat(10000, 1px); grid-template-columns: repeat(63, 1px)"), unknown(), unknown())
	if len(g.ColNames) != api.MaxAreas+1 || len(g.RowNames) != api.MaxLine+1 || len(g.Cols.Tracks) != 63 || len(g.Rows.Tracks) != api.MaxLine {
		t.Error(len(g.ColNames), len(g.RowNames))
	}
	if !slices.Equal(g.ColNames[64], []string{"a-end"}) || !slices.Equal(g.RowNames[64], []string{"a-end"}) {
		t.Error(g.ColNames[64], g.RowNames[64])
	}
}

func TestGood(t *testing.T) { // P17.3
	one := api.Track{Min: api.Len{Kind: api.LenAuto}, Max: api.Len{Kind: api.LenAuto}}
	axis := func(tracks int) api.Axis {
		return api.Axis{Lines: make([][]string, tracks+1), Tracks: slices.Repeat([]api.Track{one}, tracks)}
	}
	other := func(n int) [][]string { return make([][]string, n) }
	may := func(want bool, a api.Axis, table [][]string, gap int) {
		t.Helper()
		col := api.Grid{Cols: a, ColNames: table, ColGap: gap, Rows: axis(2), RowNames: other(4), RowGap: 5}
		row := api.Grid{Cols: axis(3), ColNames: other(5), ColGap: 7, Rows: a, RowNames: table, RowGap: gap}
		if explicit.Good(col) != want || explicit.Good(row) != want {
			t.Errorf("%d tracks, %d lines, %d names, %d, %d, gap %d: %v, %v, not %v", len(a.Tracks), len(a.Lines), len(table), a.From, a.To, gap, explicit.Good(col), explicit.Good(row), want)
		}
	}
	may(true, axis(0), other(1), 0)
	may(true, axis(0), other(9), 0)
	may(true, axis(2), other(3), 0)
	may(true, axis(2), other(4), 0)
	may(true, axis(2), [][]string{{"any", "any"}, {""}, {"a-end"}}, 0)
	may(true, axis(2), other(api.MaxLine+1), 0)
	may(true, axis(0), other(api.MaxLine+1), 0)
	may(true, axis(api.MaxLine), other(api.MaxLine+1), 0)
	may(false, axis(0), nil, 0)
	may(false, axis(0), other(0), 0)
	may(false, axis(2), other(2), 0)
	may(false, axis(2), other(1), 0)
	may(false, axis(2), nil, 0)
	may(false, axis(2), other(api.MaxLine+2), 0)
	may(false, axis(0), other(api.MaxLine+2), 0)
	may(false, axis(api.MaxLine), other(api.MaxLine), 0)
	may(false, axis(api.MaxLine), other(api.MaxLine+2), 0)
	may(false, axis(api.MaxLine+1), other(api.MaxLine+1), 0)
	may(false, axis(api.MaxLine+1), other(api.MaxLine+2), 0)
	for _, gap := range []int{0, 1, api.MaxPx - 1, api.MaxPx} {
		may(true, axis(1), other(2), gap)
	}
	for _, gap := range noSizes() {
		may(false, axis(1), other(2), gap)
	}
	fit := axis(3)
	fit.From, fit.To = 1, 3
	may(true, fit, other(4), 0)
	for _, change := range []func(a *api.Axis){
		func(a *api.Axis) { a.Lines = a.Lines[:3] },
		func(a *api.Axis) { a.Lines = nil },
		func(a *api.Axis) { a.Tracks = a.Tracks[:2] },
		func(a *api.Axis) { a.Tracks[2] = api.Track{} },
		func(a *api.Axis) { a.To = 4 },
		func(a *api.Axis) { a.From = 3 },
		func(a *api.Axis) { a.From = math.MinInt },
	} {
		a := axis(3)
		a.From, a.To = 1, 3
		change(&a)
		may(false, a, other(5), 0)
	}
	if explicit.Good(api.Grid{}) {
		t.Error("nothing")
	}
}
