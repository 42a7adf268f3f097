package expand_test

import (
	"slices"
	"testing"

	"parterre/api"
	"parterre/expand"
)

func counts(t *testing.T, l []api.Piece, size int, definite bool, gap, want int) {
	t.Helper()
	if n, e := expand.Count(l, size, definite, gap); n != want || e != api.OK {
		t.Errorf("%.200v in %d (%v) with gaps of %d: %d, %d, not %d", l, size, definite, gap, n, int(e), want)
	}
}

// fails asks for an error of Count, and that Axis has it too.
func fails(t *testing.T, l []api.Piece, size int, definite bool, gap int, want api.Errno) {
	t.Helper()
	if n, e := expand.Count(l, size, definite, gap); n != 0 || e != want {
		t.Errorf("Count of %.200v in %d (%v) with gaps of %d: %d, %d, not %d", l, size, definite, gap, n, int(e), int(want))
	}
	limits(t, l, size, definite, gap, want)
}

// limits asks for an error of Axis.
func limits(t *testing.T, l []api.Piece, size int, definite bool, gap int, want api.Errno) {
	t.Helper()
	if a, e := expand.Axis(l, size, definite, gap); len(a.Lines) > 0 || len(a.Tracks) > 0 || a.From != 0 || a.To != 0 || e != want {
		t.Errorf("Axis of %.200v in %d (%v) with gaps of %d: %.200v, %d, not %d", l, size, definite, gap, a, int(e), int(want))
	}
}

func TestCountNone(t *testing.T) { // P15.2: without a repeat that fills nothing else is asked
	over := both(api.Len{Kind: api.LenPct, N: api.MaxMille})
	for _, l := range [][]api.Piece{nil, {}, pieces(t, "none"), pieces(t, "1fr"), pieces(t, "[a] 10px [b]"), pieces(t, "repeat(3, 10px [a] 5%)"), pieces(t, "repeat(10000, 1fr auto) fit-content(1px)"), {piece(over)}, {repeat(2, piece(over))}} {
		for _, size := range []int{0, 1, 6400, api.MaxPx} {
			for _, gap := range []int{0, 1, api.MaxPx} {
				counts(t, l, size, true, gap, 0)
				counts(t, l, size, false, gap, 0)
			}
		}
	}
}

func TestCountNotDefinite(t *testing.T) { // P15.2: one time, and no track's error is asked
	over := piece(both(api.Len{Kind: api.LenPct, N: api.MaxMille}))
	for _, l := range [][]api.Piece{pieces(t, "repeat(auto-fill, 1px)"), pieces(t, "[a] repeat(auto-fit, 1px [b] 2px) repeat(3, 1px)"), {fill(over)}, {over, fit(piece(both(px(1))))}} {
		for _, size := range []int{0, 1, 64000, api.MaxPx} {
			for _, gap := range []int{0, 1, api.MaxPx} {
				counts(t, l, size, false, gap, 1)
			}
		}
	}
}

func TestCountEdges(t *testing.T) { // P15.2, P15.5: just enough, and one unit less, for each number of times
	for _, x := range []struct {
		s                                string
		fixed, others, length, each, gap int // the length of the other tracks, how many they are; of those that fill
	}{
		{"repeat(auto-fill, 100px)", 0, 0, 6400, 1, 0},
		{"repeat(auto-fit, 100px)", 0, 0, 6400, 1, 640},
		{"repeat(auto-fill, 100px)", 0, 0, 6400, 1, 1},
		{"[a] repeat(auto-fill, [b] 100px [c]) [d]", 0, 0, 6400, 1, 7},
		{"repeat(auto-fill, 10px 20px)", 0, 0, 1920, 2, 13},
		{"repeat(auto-fill, 10px [a] 20px [b] 30px)", 0, 0, 3840, 3, 640},
		{"50px repeat(auto-fit, 10px)", 3200, 1, 640, 1, 5},
		{"repeat(auto-fit, 10px) 50px", 3200, 1, 640, 1, 5},
		{"1px [x] repeat(auto-fill, 10px) [y] 2px [z] 3px", 384, 3, 640, 1, 64},
		{"repeat(3, 5px 6px) repeat(auto-fill, 10px 1px) [a] repeat(2, [b] 7px [c])", 3008, 8, 704, 2, 9},
		{"repeat(auto-fill, minmax(10px, 5px))", 0, 0, 640, 1, 0},
		{"minmax(auto, 4px) repeat(auto-fill, minmax(10px, 1fr)) minmax(min-content, 3px)", 448, 2, 640, 1, 2},
		{"repeat(auto-fill, 0px)", 0, 0, 64, 1, 0},
		{"repeat(auto-fill, 0.5px)", 0, 0, 64, 1, 3},
		{"0px repeat(auto-fill, 0% 0.25px)", 64, 1, 128, 2, 3},
	} {
		l := pieces(t, x.s)
		for n := 1; n < 40; n++ {
			size := x.fixed + n*x.length + x.gap*(x.others+n*x.each-1)
			counts(t, l, size, true, x.gap, n)
			counts(t, l, size-1, true, x.gap, max(1, n-1))
			counts(t, l, size+x.length+x.gap*x.each-1, true, x.gap, n)
		}
	}
}

func TestCountPercentages(t *testing.T) { // P15.2: they hang on the size, too
	for _, x := range []struct {
		s         string
		size, gap int
		want      int
	}{
		{"repeat(auto-fill, 50%)", 1000, 0, 2}, {"repeat(auto-fill, 50%)", 1001, 0, 2}, {"repeat(auto-fill, 50%)", 1000, 1, 1}, {"repeat(auto-fill, 50%)", 1001, 1, 2},
		{"repeat(auto-fill, 10%)", 6400, 0, 10}, {"repeat(auto-fill, 10%)", 639, 0, 9}, {"repeat(auto-fill, 10%)", 640, 0, 10}, {"repeat(auto-fill, 10%)", 63, 0, 1},
		{"50% repeat(auto-fit, 10%)", 6400, 0, 5}, {"repeat(2, 30%) repeat(auto-fit, 10%)", 6400, 0, 4}, {"repeat(auto-fit, minmax(10px, 50%))", 1280, 0, 2}, {"repeat(auto-fit, minmax(11px, 50%))", 1280, 0, 1}, {"repeat(auto-fill, 33.333%)", 64000, 0, 3}, {"repeat(auto-fill, 100%)", 64000, 0, 1}, {"repeat(auto-fill, 200%)", 64000, 0, 1}, {"100% repeat(auto-fill, 1px)", 64000, 0, 1},
	} {
		counts(t, pieces(t, x.s), x.size, true, x.gap, x.want)
	}
}

func TestCountNoRoom(t *testing.T) { // P15.2, P15.5: one time all the same
	most := piece(both(unit(api.MaxPx)))
	for _, l := range [][]api.Piece{
		pieces(t, "repeat(auto-fill, 100px)"), pieces(t, "1000px repeat(auto-fit, 100px)"), pieces(t, "repeat(10000, 1000px) repeat(auto-fit, 100px)"), pieces(t, "repeat(auto-fit, 100px 1px) repeat(10000, 1px 1px 1px)"),
		{fill(most)}, {most, fit(most)}, {fill(most), repeat(api.MaxRepeat, slices.Repeat([]api.Piece{most}, api.MaxPieces-3)...)},
	} {
		for _, size := range []int{0, 1, 63, 64, 6399} {
			for _, gap := range []int{0, 1, api.MaxPx - 1, api.MaxPx} {
				counts(t, l, size, true, gap, 1)
			}
		}
	}
}

func TestCountGreatest(t *testing.T) { // P15.2: sizes and gaps of MaxPx, and tracks of it
	one, half := pieces(t, "repeat(auto-fill, 1px)"), []api.Piece{fill(piece(both(unit(api.MaxPx / 2))))}
	counts(t, one, api.MaxPx, true, 0, api.MaxLine)
	counts(t, one, api.MaxPx, true, api.MaxPx, 1)
	counts(t, one, api.MaxPx, true, api.MaxPx-2*api.Unit, 2)
	counts(t, one, api.MaxPx, true, api.MaxPx-2*api.Unit+1, 1)
	counts(t, one, 0, true, 0, 1)
	counts(t, one, 0, true, api.MaxPx, 1)
	counts(t, half, api.MaxPx, true, 0, 2)
	counts(t, half, api.MaxPx-1, true, 0, 1)
	counts(t, half, api.MaxPx, true, 1, 1)
	counts(t, []api.Piece{fit(piece(both(unit(api.MaxPx))))}, api.MaxPx, true, api.MaxPx, 1)
}

func TestCountMost(t *testing.T) { // P15.2, P15.5: at most MaxLine tracks in all, though there would be room
	for _, x := range []struct {
		s    string
		want int
	}{
		{"repeat(auto-fill, 1px)", 10000}, {"repeat(auto-fit, 1px 1px)", 5000}, {"repeat(auto-fill, 1px 1px 1px)", 3333}, {"1px repeat(auto-fill, 1px)", 9999}, {"repeat(auto-fill, 1px) 1px 1px", 9998}, {"1px repeat(auto-fill, 1px 1px)", 4999}, {"1px 1px repeat(auto-fill, 1px 1px)", 4999}, {"1px 1px 1px repeat(auto-fill, 1px 1px)", 4998},
		{"repeat(9999, 1px) repeat(auto-fill, 1px)", 1}, {"repeat(9998, 1px) repeat(auto-fill, 1px)", 2}, {"repeat(9998, 1px) repeat(auto-fill, 1px 1px)", 1}, {"repeat(4998, 1px 1px) repeat(auto-fill, 1px 1px)", 2}, {"repeat(4998, 1px 1px) 1px repeat(auto-fill, 1px 1px)", 1}, {"repeat(4999, 1px 1px) 1px repeat(auto-fill, 1px 1px)", 1}, {"repeat(10000, 1px) repeat(auto-fill, 1px)", 1}, {"repeat(10000, 1px 1px) repeat(auto-fill, 1px)", 1},
	} {
		l := pieces(t, x.s)
		counts(t, l, api.MaxPx, true, 0, x.want)
		counts(t, l, api.MaxPx, true, 64, x.want)
	}
	// 10000 tracks of 1px, with and without the last unit that they want.
	counts(t, pieces(t, "repeat(auto-fill, 1px)"), 640000, true, 0, 10000)
	counts(t, pieces(t, "repeat(auto-fill, 1px)"), 639999, true, 0, 9999)
	counts(t, pieces(t, "repeat(auto-fill, 1px)"), 640000+9999, true, 1, 10000)
	counts(t, pieces(t, "repeat(auto-fill, 1px)"), 640000+9998, true, 1, 9999)
}

func TestCountOver(t *testing.T) { // P15.2: Breadth's error, wherever the track stands, ahead of there being no room or too many tracks
	one, over := piece(both(px(1))), piece(both(api.Len{Kind: api.LenPct, N: 100*api.Mille + 1}))
	most := repeat(api.MaxRepeat, one)
	for _, l := range [][]api.Piece{
		{fill(over)}, {fit(over)}, {over, fill(one)}, {fill(one), over}, {fill(one, over)}, {fill(one, named("a"), over, one)}, {repeat(2, over), fit(one)}, {fit(one), repeat(1, one, over)}, {named("a"), fit(one), named("b"), over, named("c")},
		{most, most, over, fill(one)}, {most, most, fill(over)}, {fill(one), most, most, over}, {most, most, fill(one), repeat(api.MaxRepeat, one, one, over)}, {over, fill(over), over},
		{fill(piece(minmax(px(1), over.Track.Min)))}, {fill(piece(minmax(over.Track.Min, px(1))))}, {fill(piece(minmax(over.Track.Min, fr(1))))},
	} {
		fails(t, l, api.MaxPx, true, 0, api.ErrOver)
		fails(t, l, api.MaxPx, true, api.MaxPx, api.ErrOver)
		if n, e := expand.Count(l, api.MaxPx-api.MaxPx/100000-1, true, 0); n < 1 || e != api.OK {
			t.Errorf("%.200v: %d, %d", l, n, int(e))
		}
	}
}

// noTemplates are lists of pieces that may not be.
func noTemplates() [][]api.Piece {
	one := piece(both(px(1)))
	l := [][]api.Piece{
		{named("a")}, {named("a"), named("b"), one}, {named("auto"), one}, {{}}, {one, {}}, {{Kind: 6}}, {fill()}, {fit(named("a"))}, {fill(one), fit(one)}, {fill(one), fill(one)}, {repeat(0, one)}, {repeat(-1, one)}, {repeat(api.MaxRepeat+1, one)}, {repeat(2, fill(one))}, {fill(repeat(2, one))}, {{Kind: api.PieceFill, Count: 1, Inner: []api.Piece{one}}},
		slices.Repeat([]api.Piece{one}, api.MaxPieces+1), {fill(slices.Repeat([]api.Piece{one}, api.MaxPieces)...)},
	}
	for _, x := range noFixed() {
		l = append(l, []api.Piece{fill(piece(x))}, []api.Piece{fit(one), piece(x)}, []api.Piece{repeat(2, piece(x)), fill(one)})
	}
	for _, x := range noRight() {
		l = append(l, []api.Piece{piece(x)}, []api.Piece{fill(piece(x))}, []api.Piece{one, repeat(2, one, piece(x))})
	}
	return l
}

func TestCountWrong(t *testing.T) { // P15.2, P15.3: templates, sizes and gaps that may not be
	for _, l := range noTemplates() {
		for _, definite := range []bool{true, false} {
			fails(t, l, 6400, definite, 0, api.ErrArg)
			fails(t, l, -1, definite, api.MaxPx+1, api.ErrArg)
		}
	}
	over := both(api.Len{Kind: api.LenPct, N: api.MaxMille})
	for _, l := range [][]api.Piece{nil, pieces(t, "1fr"), pieces(t, "repeat(auto-fill, 1px)"), {fit(piece(over))}, pieces(t, "repeat(10000, 1px 1px)")} {
		for _, n := range noSizes() {
			for _, definite := range []bool{true, false} {
				fails(t, l, n, definite, 0, api.ErrArg)
				fails(t, l, 6400, definite, n, api.ErrArg)
				fails(t, l, n, definite, n, api.ErrArg)
			}
		}
	}
}
