package explicit_test

import (
	"math/rand/v2"
	"reflect"
	"slices"
	"strconv"
	"testing"

	"parterre/api"
	"parterre/explicit"
	"parterre/style"
)

// ends are the lines of a name's cells along both axes: the first one, and that behind the last one.
type ends struct{ row, rowEnd, col, colEnd int }

// corners tells where each name's cells stand, cell by cell.
func corners(cells [][]string) map[string]ends {
	found := map[string]ends{}
	for r, row := range cells {
		for c, name := range row {
			x, is := found[name]
			if !is {
				x = ends{r, r + 1, c, c + 1}
			}
			found[name] = ends{min(x.row, r), max(x.rowEnd, r+1), min(x.col, c), max(x.colEnd, c+1)}
		}
	}
	delete(found, "")
	return found
}

// someAreas tells cells of which each name fills a rectangle.
func someAreas(random *rand.Rand) [][]string {
	cells := make([][]string, 1+random.IntN(6))
	cols := 1 + random.IntN(6)
	for i := range cells {
		cells[i] = make([]string, cols)
	}
	for n := range random.IntN(8) {
		row, col := random.IntN(len(cells)), random.IntN(cols)
		rows, wide := 1+random.IntN(len(cells)-row), 1+random.IntN(cols-col)
		free := true
		for _, line := range cells[row : row+rows] {
			free = free && !slices.ContainsFunc(line[col:col+wide], func(s string) bool { return s != "" })
		}
		for i := row; free && i < row+rows; i++ {
			for k := col; k < col+wide; k++ {
				cells[i][k] = "n" + strconv.Itoa(n)
			}
		}
	}
	return cells
}

func someTemplate(random *rand.Rand) []api.Piece {
	fixed := func() api.Piece {
		v := []api.Len{{Kind: api.LenPx, N: random.IntN(90) * px}, {Kind: api.LenPct, N: random.IntN(50000)}}[random.IntN(2)]
		return api.Piece{Kind: api.PieceTrack, Track: api.Track{Min: v, Max: v}}
	}
	named := func() api.Piece {
		return api.Piece{Kind: api.PieceNames, Names: []string{"n" + strconv.Itoa(random.IntN(4)) + []string{"-start", "-end", ""}[random.IntN(3)]}}
	}
	var l []api.Piece
	for i := range random.IntN(4) {
		switch kind := random.IntN(6); {
		case i == 0 && kind < 2:
			l = append(l, api.Piece{Kind: api.PieceFill + kind, Inner: []api.Piece{named(), fixed()}})
		case kind == 2:
			l = append(l, api.Piece{Kind: api.PieceRepeat, Count: 1 + random.IntN(4), Inner: []api.Piece{fixed(), named()}})
		default:
			l = append(l, named(), fixed())
		}
	}
	return l
}

func someStyle(random *rand.Rand) api.Style {
	s := style.Default()
	if random.IntN(4) > 0 {
		s.Areas = someAreas(random)
	}
	s.Cols, s.Rows = someTemplate(random), someTemplate(random)
	gap := func() api.Len {
		return []api.Len{{Kind: api.LenPx, N: random.IntN(1000)}, {Kind: api.LenPct, N: random.IntN(20000)}}[random.IntN(2)]
	}
	s.ColGap, s.RowGap = gap(), gap()
	return s
}

func someExtent(random *rand.Rand) extent {
	return []extent{definite(random.IntN(500 * px)), definite(random.IntN(api.MaxPx + 1)), {random.Int() - random.Int(), false}}[random.IntN(3)]
}

func TestFollows(t *testing.T) { // P17.4, P17.5: of styles by chance
	random := rand.New(rand.NewPCG(17, 4))
	areas := 0
	for range 2000 {
		s := someStyle(random)
		width, height := someExtent(random), someExtent(random)
		g := grid(t, s, width, height) // which asks whether it is Good
		for name, at := range corners(s.Areas) {
			areas++
			if !slices.Contains(g.RowNames[at.row], name+"-start") || !slices.Contains(g.RowNames[at.rowEnd], name+"-end") {
				t.Fatalf("%v: rows of %s: %v", s.Areas, name, g.RowNames)
			}
			if !slices.Contains(g.ColNames[at.col], name+"-start") || !slices.Contains(g.ColNames[at.colEnd], name+"-end") {
				t.Fatalf("%v: columns of %s: %v", s.Areas, name, g.ColNames)
			}
		}
		isWhole(t, s, g)
		again := grid(t, s, width, height)
		if !reflect.DeepEqual(g, again) {
			t.Fatal(g, again)
		}
	}
	if areas < 2000 {
		t.Error(areas)
	}
}

// isWhole asks whether tables have the lines that they must, each with its own names first and none that no area has.
func isWhole(t *testing.T, s api.Style, g api.Grid) {
	t.Helper()
	cols := 0
	if len(s.Areas) > 0 {
		cols = len(s.Areas[0])
	}
	at := corners(s.Areas)
	for _, x := range []struct {
		axis  api.Axis
		table [][]string
		least int
	}{{g.Cols, g.ColNames, cols}, {g.Rows, g.RowNames, len(s.Areas)}} {
		if len(x.table) != max(len(x.axis.Tracks), x.least)+1 {
			t.Fatal(len(x.table), len(x.axis.Tracks), x.least)
		}
		more := 0
		for i, line := range x.table {
			var own []string
			if i < len(x.axis.Lines) {
				own = x.axis.Lines[i]
			}
			if !slices.Equal(line[:len(own)], own) {
				t.Fatal(line, own)
			}
			more += len(line) - len(own)
		}
		if more != 2*len(at) {
			t.Fatal(more, len(at))
		}
	}
}

func TestUnchanged(t *testing.T) { // rules 4 and 8: what is handed in stays, its spare room too
	fresh := func() api.Style {
		s := style.Default()
		names := func(l ...string) api.Piece {
			return api.Piece{Kind: api.PieceNames, Names: append(l, "spare")[:len(l)]}
		}
		one := api.Len{Kind: api.LenPx, N: px}
		track := api.Piece{Kind: api.PieceTrack, Track: api.Track{Min: one, Max: one}}
		inner := []api.Piece{names("b"), track, names("spare")}[:2]
		s.Cols = []api.Piece{names("a"), {Kind: api.PieceFit, Inner: inner}, names("c", "d"), track, names("spare")}[:4]
		s.Rows = []api.Piece{track, names("e"), track}[:2]
		s.Areas = [][]string{{"p", "q", "spare"}, {"p", "", "spare"}, {"spare"}}[:2]
		s.Areas[0], s.Areas[1] = s.Areas[0][:2], s.Areas[1][:2]
		return s
	}
	s := fresh()
	const cols, rows = "a b p-start/b p-end q-start/b q-end/c d/", "p-start q-start/e q-end/p-end"
	for range 2 {
		g := grid(t, s, definite(4*px), definite(9*px))
		if lines(g.ColNames) != cols || lines(g.RowNames) != rows || len(g.Cols.Tracks) != 4 || len(g.Rows.Tracks) != 1 {
			t.Error(g)
		}
		areApart(t, g)
	}
	if want := fresh(); !reflect.DeepEqual(spare(s), spare(want)) || !reflect.DeepEqual(s, want) {
		t.Error(spare(s), spare(want))
	}
}

// areApart asks whether no two tables of an answer share a list, by writing into all of them.
func areApart(t *testing.T, g api.Grid) {
	t.Helper()
	tables := [][][]string{g.ColNames, g.Cols.Lines, g.RowNames, g.Rows.Lines}
	for i, table := range tables {
		for k := range table {
			table[k] = append(table[k], "more")
			for n := range table[k] {
				table[k][n] = strconv.Itoa(i)
			}
		}
	}
	for i, table := range tables {
		for _, name := range slices.Concat(table...) {
			if name != strconv.Itoa(i) {
				t.Error(i, table)
			}
		}
	}
}

// spare tells all names and cells of a style, with those in the room behind them.
func spare(s api.Style) []string {
	var all []string
	var pieces func(l []api.Piece)
	pieces = func(l []api.Piece) {
		for _, p := range l[:cap(l)] {
			all = append(all, p.Names[:cap(p.Names)]...)
			pieces(p.Inner)
		}
	}
	pieces(s.Cols)
	pieces(s.Rows)
	for _, row := range s.Areas[:cap(s.Areas)] {
		all = append(all, row[:cap(row)]...)
	}
	return all
}

func TestEmptyLists(t *testing.T) { // rule 3: no list and one without an element are alike
	none, empty := style.Default(), style.Default()
	empty.Cols, empty.Rows, empty.Areas = []api.Piece{}, []api.Piece{}, [][]string{}
	none.Cols, none.Rows, none.Areas = nil, nil, nil
	for _, s := range []api.Style{none, empty} {
		g := grid(t, s, definite(100), unknown())
		if lines(g.ColNames) != "" || lines(g.RowNames) != "" || len(g.ColNames) != 1 || len(g.RowNames) != 1 || len(g.Cols.Lines) != 1 || len(g.Rows.Lines) != 1 {
			t.Error(g)
		}
	}
	if !explicit.Good(api.Grid{Cols: api.Axis{Lines: [][]string{{}}, Tracks: []api.Track{}}, Rows: api.Axis{Lines: [][]string{nil}}, ColNames: [][]string{nil}, RowNames: [][]string{{}}}) {
		t.Error("empty lists")
	}
}
