package implicit_test

import (
	"math/rand/v2"
	"slices"
	"testing"

	"parterre/api"
	"parterre/implicit"
)

// some tells what Tracks may be handed, by chance.
func some(random *rand.Rand) (a api.Axis, lines int, auto []api.Track, l []api.Cell) {
	count := random.IntN(6)
	for i := range count {
		a.Tracks = append(a.Tracks, one(1+i))
	}
	a.Lines = make([][]string, count+1)
	if count > 0 && random.IntN(4) > 0 {
		a.From = random.IntN(count)
		a.To = a.From + 1 + random.IntN(count-a.From)
	}
	for i := range 1 + random.IntN(4) {
		auto = append(auto, one(100+i))
	}
	for range random.IntN(4) {
		l = append(l, api.Cell{Row: random.IntN(16) - 6, Col: random.IntN(9), Rows: random.IntN(4), Cols: random.IntN(4)})
	}
	return a, count + 1 + random.IntN(3), auto, l
}

// stands tells whether a cell stands in a row.
func stands(c api.Cell, at int) bool {
	return c.Rows > 0 && c.Cols > 0 && c.Row <= at && at < c.Row+c.Rows
}

// plain tells what Tracks should, place by place.
func plain(a api.Axis, lines int, auto []api.Track, l []api.Cell, gap int) api.Tracks {
	var x api.Tracks
	is := func(at int) bool {
		return slices.ContainsFunc(l, func(c api.Cell) bool { return stands(c, at) })
	}
	end := lines - 1
	for at := -20; at < 20; at++ {
		if is(at) {
			x.Low, end = min(x.Low, at), max(end, at+1)
		}
	}
	ahead, behind := slices.Clone(auto), slices.Clone(auto)
	for at := -1; at >= x.Low; at-- {
		last := len(ahead) - 1
		x.List = slices.Insert(x.List, 0, ahead[last])
		ahead = slices.Insert(ahead[:last], 0, ahead[last])
	}
	x.List = append(x.List, a.Tracks...)
	for len(x.List) < end-x.Low {
		x.List = append(x.List, behind[0])
		behind = append(behind[1:], behind[0])
	}
	there := 0
	for i := range x.List {
		at := x.Low + i
		x.Gone = append(x.Gone, a.From <= at && at < a.To && !is(at))
		x.Ahead = append(x.Ahead, 0)
		if !x.Gone[i] {
			x.Ahead[i] = gap * min(there, 1)
			there++
		}
	}
	return x
}

func TestTracksByChance(t *testing.T) { // P21.1 to P21.3: held against a walk from place to place
	random := rand.New(rand.NewPCG(21, 2))
	for range 50000 {
		a, lines, auto, l := some(random)
		gap := random.IntN(3)
		x, want := tracks(t, a, lines, auto, l, gap), plain(a, lines, auto, l, gap)
		if !same(x, want) {
			t.Fatal(a, lines, auto, l, gap, x, want)
		}
		if low, high := implicit.Bounds(l, lines, true); low != x.Low || high != x.Low+len(x.List) {
			t.Fatal(a, lines, l, low, high)
		}
	}
}

func TestGaps(t *testing.T) { // P21.4
	random := rand.New(rand.NewPCG(21, 4))
	for range 20000 {
		a, lines, auto, l := some(random)
		x := tracks(t, a, lines, auto, l, 5)
		there := 0
		for _, gone := range x.Gone {
			if !gone {
				there++
			}
		}
		if implicit.Total(x) != 5*max(0, there-1) {
			t.Fatal(a, lines, l, x)
		}
		last := -1 // the one ahead that is not Gone
		for i, gone := range x.Gone {
			if gone {
				continue
			}
			if between := implicit.Total(api.Tracks{Ahead: x.Ahead[last+1 : i+1]}); between != 5 && last >= 0 || between != 0 && last < 0 {
				t.Fatal(a, lines, l, x)
			}
			last = i
		}
	}
}

func TestThere(t *testing.T) { // P21.5: of cells of any size
	random := rand.New(rand.NewPCG(21, 5))
	for range 100 {
		var l []api.Cell
		for range 1 + random.IntN(3) {
			l = append(l, row(random.IntN(2*most+1)-most, 1+random.IntN(2*most)))
		}
		a := fitted(random.IntN(300), 0, 0)
		a.To = len(a.Tracks)
		x := tracks(t, a, len(a.Lines), several(7), l, 5)
		for _, c := range l {
			from, to := c.Row-x.Low, c.Row+c.Rows-x.Low
			if from < 0 || to > len(x.List) || slices.Contains(x.Gone[from:to], true) {
				t.Fatal(l, x.Low, len(x.List))
			}
		}
	}
}

func TestManyLongCells(t *testing.T) { // it ends soon, however many cells there are
	l := slices.Repeat([]api.Cell{row(-most, 2*most), row(most, 2*most)}, 200000)
	x, e := implicit.Tracks(fitted(most, 0, most), most+1, several(7), l, true, 5)
	if e != api.OK || len(x.List) != 4*most || slices.Contains(x.Gone, true) {
		t.Error(len(x.List), int(e))
	}
}

// roomy tells a list with spare room, in which something stands, and the whole of it.
func roomy[T any](l []T, spare T) (list, whole []T) {
	whole = append(slices.Clone(l), spare, spare)
	return whole[:len(l)], whole
}

func TestHandedIn(t *testing.T) { // rules 4, 7 and 8: nothing of what is handed in is changed, or shared
	a := fitted(3, 1, 3)
	auto, autos := roomy(several(7, 8), one(99))
	l, cells := roomy([]api.Cell{row(-2, 1), row(1, 9)}, row(most, 2*most))
	list, sizes := roomy(a.Tracks, one(99))
	a.Tracks = list
	x := tracks(t, a, 4, auto, l, 5)
	want := plain(a, 4, auto, l, 5)
	if !same(x, want) {
		t.Error(x)
	}
	for i := range x.List {
		x.List[i] = one(55)
	}
	if !slices.Equal(autos, several(7, 8, 99, 99)) || !slices.Equal(sizes, several(1, 1, 1, 99, 99)) || !slices.Equal(cells, []api.Cell{row(-2, 1), row(1, 9), row(most, 2*most), row(most, 2*most)}) {
		t.Error(autos, sizes, cells)
	}
	ahead, gaps := roomy([]int{0, 5}, 1000)
	if implicit.Total(api.Tracks{Ahead: ahead}) != 5 || !slices.Equal(gaps, []int{0, 5, 1000, 1000}) {
		t.Error(gaps)
	}
}
