package expand_test

import (
	"math"
	"strings"
	"testing"

	"parterre/api"
	"parterre/expand"
	"parterre/token"
	"parterre/track"
)

// pieces tells the pieces of a template.
func pieces(t *testing.T, s string) []api.Piece {
	t.Helper()
	words, _, e := token.Tokens([]byte(s))
	if e != api.OK {
		t.Fatalf("%.80q: %d", s, int(e))
	}
	l, next, e := track.Template(words, 0)
	if e != api.OK || next != len(words)-1 {
		t.Fatalf("%.80q: %d, %d", s, next, int(e))
	}
	return l
}

func px(n int) api.Len   { return api.Len{Kind: api.LenPx, N: n * api.Unit} }
func unit(n int) api.Len { return api.Len{Kind: api.LenPx, N: n} }
func pct(n int) api.Len  { return api.Len{Kind: api.LenPct, N: n * api.Mille} }
func fr(n int) api.Len   { return api.Len{Kind: api.LenFr, N: n * api.Mille} }

func kind(k int) api.Len { return api.Len{Kind: k} }

func minmax(a, b api.Len) api.Track { return api.Track{Min: a, Max: b} }

func both(v api.Len) api.Track { return minmax(v, v) }

func piece(t api.Track) api.Piece { return api.Piece{Kind: api.PieceTrack, Track: t} }

func named(l ...string) api.Piece { return api.Piece{Kind: api.PieceNames, Names: l} }

func repeat(n int, inner ...api.Piece) api.Piece {
	return api.Piece{Kind: api.PieceRepeat, Count: n, Inner: inner}
}

func fill(inner ...api.Piece) api.Piece { return api.Piece{Kind: api.PieceFill, Inner: inner} }

func fit(inner ...api.Piece) api.Piece { return api.Piece{Kind: api.PieceFit, Inner: inner} }

// bodies are kinds of sizes by which no track is fixed.
func bodies() []api.Len { return []api.Len{kind(api.LenAuto), kind(api.LenMin), kind(api.LenMax)} }

// noSizes are sizes and gaps that may not be.
func noSizes() []int {
	return []int{math.MinInt, math.MinInt + 1, -api.MaxPx - 1, -api.MaxPx, -api.Unit, -1, api.MaxPx + 1, 2 * api.MaxPx, math.MaxInt - 1, math.MaxInt}
}

func TestExample(t *testing.T) {
	l := pieces(t, "[a] repeat(auto-fill, 100px [b])")
	if n, e := expand.Count(l, 250*api.Unit, true, 10*api.Unit); n != 2 || e != api.OK {
		t.Error(n, int(e))
	}
	a, e := expand.Axis(l, 250*api.Unit, true, 10*api.Unit)
	if e != api.OK || len(a.Tracks) != 2 || text(a) != "a / b / b" {
		t.Error(a, int(e))
	}
}

// text tells the names of an axis' lines.
func text(a api.Axis) string {
	var l []string
	for _, names := range a.Lines {
		l = append(l, strings.Join(names, " "))
	}
	return strings.Join(l, " / ")
}

func breadth(t *testing.T, x api.Track, size, want int) {
	t.Helper()
	if n, e := expand.Breadth(x, size); n != want || e != api.OK {
		t.Errorf("%v in %d: %d, %d, not %d", x, size, n, int(e), want)
	}
}

func TestBreadthOfOne(t *testing.T) { // P15.1: fixed by Min alone, by Max alone, by both alike
	const size = 1000
	for _, x := range []struct {
		v    api.Len
		want int
	}{
		{unit(0), 64}, {unit(1), 64}, {unit(63), 64}, {unit(64), 64}, {unit(65), 65}, {unit(999), 999}, {unit(1000), 1000}, {unit(1001), 1001}, {unit(api.MaxPx - 1), api.MaxPx - 1}, {unit(api.MaxPx), api.MaxPx},
		{pct(0), 64}, {pct(1), 64}, {pct(6), 64}, {api.Len{Kind: api.LenPct, N: 6399}, 64}, {api.Len{Kind: api.LenPct, N: 6400}, 64}, {api.Len{Kind: api.LenPct, N: 6499}, 64}, {api.Len{Kind: api.LenPct, N: 6500}, 65}, {pct(7), 70}, {pct(50), 500}, {api.Len{Kind: api.LenPct, N: 50099}, 500}, {pct(100), 1000}, {pct(250), 2500}, {api.Len{Kind: api.LenPct, N: api.MaxMille}, 10737418},
	} {
		breadth(t, both(x.v), size, x.want)
		for _, other := range bodies() {
			breadth(t, minmax(x.v, other), size, x.want)
			breadth(t, minmax(other, x.v), size, x.want)
		}
		breadth(t, minmax(x.v, fr(1)), size, x.want)
		breadth(t, minmax(x.v, fr(0)), size, x.want)
	}
}

func TestBreadthOfTwo(t *testing.T) { // P15.1: the greater one, wherever it stands
	const size = 1000
	for _, x := range []struct {
		a, b api.Len
		want int
	}{
		{unit(100), unit(200), 200}, {unit(100), unit(101), 101}, {unit(0), unit(1), 64}, {unit(0), unit(64), 64}, {unit(63), unit(65), 65}, {unit(1), unit(api.MaxPx), api.MaxPx},
		{pct(10), pct(20), 200}, {pct(0), pct(6), 64}, {pct(10), pct(100), 1000}, {pct(0), pct(200), 2000},
		{unit(100), pct(20), 200}, {pct(20), unit(201), 201}, {pct(20), unit(200), 200}, {unit(199), pct(20), 200}, {unit(10), pct(1), 64}, {unit(0), pct(0), 64}, {pct(100), unit(api.MaxPx), api.MaxPx},
	} {
		breadth(t, minmax(x.a, x.b), size, x.want)
		breadth(t, minmax(x.b, x.a), size, x.want)
	}
}

func TestBreadthOfSizes(t *testing.T) { // P15.1: of the edges of sizes
	for _, x := range []struct{ size, half int }{{0, 64}, {1, 64}, {127, 64}, {128, 64}, {129, 64}, {130, 65}, {131, 65}, {api.MaxPx - 1, api.MaxPx/2 - 1}, {api.MaxPx, api.MaxPx / 2}} {
		breadth(t, both(pct(50)), x.size, x.half)
		breadth(t, both(unit(100)), x.size, 100)
		breadth(t, both(pct(0)), x.size, 64)
		breadth(t, minmax(unit(0), pct(100)), x.size, max(64, x.size))
		breadth(t, minmax(pct(100), unit(0)), x.size, max(64, x.size))
	}
}

func TestBreadthOver(t *testing.T) { // P15.1: a percentage whose length is none
	const just, most = 100 * api.Mille, api.MaxMille
	thousandths := func(n int) api.Len { return api.Len{Kind: api.LenPct, N: n} }
	over := func(x api.Track, size int) {
		t.Helper()
		if n, e := expand.Breadth(x, size); n != 0 || e != api.ErrOver {
			t.Errorf("%v in %d: %d, %d", x, size, n, int(e))
		}
	}
	breadth(t, both(thousandths(just)), api.MaxPx, api.MaxPx)
	breadth(t, both(thousandths(2*just)), api.MaxPx/2, api.MaxPx)
	breadth(t, both(thousandths(most)), 1, 10737)
	for _, x := range []struct{ n, size int }{{just + 1, api.MaxPx}, {2 * just, api.MaxPx/2 + 1}, {most, api.MaxPx}, {most, api.MaxPx / 10737}} {
		over(both(thousandths(x.n)), x.size)
		for _, other := range append(bodies(), unit(0), unit(api.MaxPx), pct(0), pct(100)) {
			over(minmax(thousandths(x.n), other), x.size)
			over(minmax(other, thousandths(x.n)), x.size)
		}
		over(minmax(thousandths(x.n), fr(1)), x.size)
	}
}

// noFixed are tracks that may be, but are not fixed.
func noFixed() []api.Track {
	l := []api.Track{minmax(kind(api.LenAuto), fr(1)), minmax(kind(api.LenMin), fr(0)), minmax(kind(api.LenMax), fr(2))}
	for _, a := range bodies() {
		for _, b := range bodies() {
			l = append(l, minmax(a, b))
		}
	}
	for _, v := range []api.Len{px(1), pct(1), px(0), pct(0)} {
		l = append(l, api.Track{Min: kind(api.LenAuto), Max: kind(api.LenMax), Fit: true, Limit: v})
	}
	return l
}

// noRight are tracks that may not be, most of them with a size by which one is fixed.
func noRight() []api.Track {
	l := []api.Track{{}, {Min: px(1)}, {Max: px(1)}, minmax(fr(1), px(1)), minmax(fr(1), fr(1)), {Min: px(1), Max: px(1), Fit: true}, {Min: px(1), Max: px(1), Fit: true, Limit: px(1)}, {Min: px(1), Max: px(1), Limit: px(1)}, {Min: px(1), Max: px(1), Limit: api.Len{N: 1}}, {Min: kind(api.LenAuto), Max: kind(api.LenMax), Fit: true}, {Min: kind(api.LenAuto), Max: kind(api.LenMax), Fit: true, Limit: unit(-1)}}
	for _, v := range []api.Len{unit(-1), unit(math.MinInt), unit(api.MaxPx + 1), unit(math.MaxInt), {Kind: api.LenPct, N: -1}, {Kind: api.LenPct, N: math.MinInt}, {Kind: api.LenPct, N: api.MaxMille + 1}, {Kind: api.LenPct, N: math.MaxInt}, {Kind: api.LenAuto, N: 1}, kind(api.LenNone), {}, kind(8), kind(-1)} {
		l = append(l, both(v), minmax(v, px(1)), minmax(px(1), v), minmax(v, pct(1)), minmax(pct(1), v))
	}
	for _, n := range []int{-1, api.MaxMille + 1} {
		l = append(l, minmax(px(1), api.Len{Kind: api.LenFr, N: n}))
	}
	return l
}

func TestBreadthWrong(t *testing.T) { // P15.1
	wrong := func(x api.Track, size int) {
		t.Helper()
		if n, e := expand.Breadth(x, size); n != 0 || e != api.ErrArg {
			t.Errorf("%v in %d: %d, %d", x, size, n, int(e))
		}
	}
	for _, x := range append(noFixed(), noRight()...) {
		for _, size := range append(noSizes(), 0, 1, 6400, api.MaxPx) {
			wrong(x, size)
		}
	}
	for _, x := range []api.Track{both(px(1)), both(pct(1)), minmax(px(1), fr(1)), minmax(kind(api.LenAuto), px(1)), both(api.Len{Kind: api.LenPct, N: api.MaxMille})} {
		for _, size := range noSizes() {
			wrong(x, size)
		}
	}
}
