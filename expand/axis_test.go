package expand_test

import (
	"math"
	"math/rand/v2"
	"slices"
	"strconv"
	"strings"
	"testing"

	"parterre/api"
	"parterre/expand"
	"parterre/track"
)

func axis(t *testing.T, l []api.Piece, size int, definite bool, gap int) api.Axis {
	t.Helper()
	a, e := expand.Axis(l, size, definite, gap)
	if e != api.OK || !expand.Good(a) {
		t.Fatalf("%.200v in %d (%v) with gaps of %d: %.200v, %d", l, size, definite, gap, a, int(e))
	}
	return a
}

// sizes tells the tracks of an axis, as text.
func sizes(a api.Axis) string {
	var l []string
	for _, x := range a.Tracks {
		l = append(l, track.SizeText(x))
	}
	return strings.Join(l, " ")
}

func TestAxis(t *testing.T) { // P15.3, in 100px without gaps
	for _, x := range []struct {
		s, tracks, lines string
		from, to         int
	}{
		{"none", "", "", 0, 0},
		{"1fr", "1fr", " / ", 0, 0},
		{"[a b] 10px [c]", "10px", "a b / c", 0, 0},
		{"10px [a] 20px", "10px 20px", " / a / ", 0, 0},
		{"[a] fit-content(5%) [a a] minmax(10px, 1fr) [b]", "fit-content(5%) minmax(10px, 1fr)", "a / a a / b", 0, 0},
		// a repeat that is taken once, twice, more often; names at its ends, within and beside it
		{"repeat(1, 1px)", "1px", " / ", 0, 0},
		{"repeat(1, [a] 1px [b])", "1px", "a / b", 0, 0},
		{"[x] repeat(1, [a] 1px [b]) [y]", "1px", "x a / b y", 0, 0},
		{"[x] repeat(1, 1px) [y]", "1px", "x / y", 0, 0},
		{"repeat(2, 1px)", "1px 1px", " /  / ", 0, 0},
		{"repeat(2, [a] 1px)", "1px 1px", "a / a / ", 0, 0},
		{"repeat(2, 1px [b])", "1px 1px", " / b / b", 0, 0},
		{"[x] repeat(2, [a] 1px [b]) [y]", "1px 1px", "x a / b a / b y", 0, 0},
		{"[x] repeat(2, [a] 1px [b] 2px [c]) [y]", "1px 2px 1px 2px", "x a / b / c a / b / c y", 0, 0},
		{"repeat(3, [a b] 1px [c d])", "1px 1px 1px", "a b / c d a b / c d a b / c d", 0, 0},
		{"repeat(2, [a] 1px [a])", "1px 1px", "a / a a / a", 0, 0},
		{"repeat(2, [a] 1px [b]) repeat(2, [c] 2px [d])", "1px 1px 2px 2px", "a / b a / b c / d c / d", 0, 0},
		{"repeat(2, [a] 1px [b]) [m] repeat(2, [c] 2px [d])", "1px 1px 2px 2px", "a / b a / b m c / d c / d", 0, 0},
		{"5px repeat(2, 1px [b]) 6px", "5px 1px 1px 6px", " /  / b / b / ", 0, 0},
		// what fills
		{"repeat(auto-fill, 40px)", "40px 40px", " /  / ", 0, 0},
		{"repeat(auto-fit, 40px)", "40px 40px", " /  / ", 0, 2},
		{"repeat(auto-fit, 400px)", "400px", " / ", 0, 1},
		{"[x] repeat(auto-fill, [a] 40px [b]) [y]", "40px 40px", "x a / b a / b y", 0, 0},
		{"[x] repeat(auto-fit, [a] 40px [b]) [y]", "40px 40px", "x a / b a / b y", 0, 2},
		{"[x] repeat(auto-fit, [a] 60px [b]) [y]", "60px", "x a / b y", 0, 1},
		{"[x] repeat(auto-fit, [a] 20px [b] 10px [c]) [y]", "20px 10px 20px 10px 20px 10px", "x a / b / c a / b / c a / b / c y", 0, 6},
		{"9px repeat(auto-fit, 40px)", "9px 40px 40px", " /  /  / ", 1, 3},
		{"repeat(auto-fit, 40px) 9px", "40px 40px 9px", " /  /  / ", 0, 2},
		{"9px 1px repeat(auto-fill, 40px) 9px", "9px 1px 40px 40px 9px", " /  /  /  /  / ", 0, 0},
		{"repeat(3, [p] 1px [q]) [r] repeat(auto-fit, [a] 40px [b]) [s] repeat(2, [u] 2px [v]) [w]", "1px 1px 1px 40px 40px 2px 2px", "p / q p / q p / q r a / b a / b s u / v u / v w", 3, 5},
		{"99px [k] repeat(auto-fit, 40px 50px [a]) 7px", "99px 40px 50px 7px", " / k /  / a / ", 1, 3},
	} {
		a := axis(t, pieces(t, x.s), 6400, true, 0)
		if sizes(a) != x.tracks || text(a) != x.lines || a.From != x.from || a.To != x.to {
			t.Errorf("%s: %q, %q, %d, %d", x.s, sizes(a), text(a), a.From, a.To)
		}
	}
	if a := axis(t, nil, 0, false, 0); len(a.Lines) != 1 || len(a.Lines[0]) > 0 || len(a.Tracks) > 0 {
		t.Error(a)
	}
}

func TestAxisOnce(t *testing.T) { // P15.3: not definite; as definite, there would be room for more
	l := pieces(t, "[x] 1px repeat(auto-fit, [a] 1px [b] 2px [c]) 3px")
	for _, size := range []int{0, 6400, api.MaxPx} {
		a := axis(t, l, size, false, 5)
		if sizes(a) != "1px 1px 2px 3px" || text(a) != "x / a / b / c / " || a.From != 1 || a.To != 3 {
			t.Error(a)
		}
	}
	if a := axis(t, l, 6400, true, 5); len(a.Tracks) != 2+2*30 || a.From != 1 || a.To != 1+2*30 {
		t.Error(len(a.Tracks), a.From, a.To)
	}
}

func TestAxisMost(t *testing.T) { // P15.3, P15.6: the most tracks that may be, and one more
	for _, x := range []struct {
		s     string
		count int // 0: too many
	}{
		{"repeat(10000, 1fr)", 10000}, {"repeat(5000, auto auto)", 10000}, {"repeat(9999, 1fr) 2px", 10000}, {"2px repeat(9999, 1fr)", 10000}, {"repeat(3333, 1fr auto 5%)", 9999}, {"repeat(5000, 1fr) [m] repeat(5000, 1fr)", 10000},
		{"repeat(10000, 1fr) 2px", 0}, {"2px repeat(10000, 1fr)", 0}, {"repeat(10000, 1fr auto)", 0}, {"repeat(5001, 1fr auto)", 0}, {"repeat(3334, 1fr auto 5%)", 0}, {"repeat(5000, 1fr) repeat(5001, 1fr)", 0}, {"repeat(10000, 1fr) repeat(10000, 1fr)", 0},
		{"repeat(9999, 1px) repeat(auto-fill, 1px)", 10000}, {"repeat(auto-fit, 1px) repeat(9999, 1px)", 10000}, {"repeat(9998, 1px) repeat(auto-fit, 1px 1px)", 10000}, {"repeat(10000, 1px) repeat(auto-fill, 1px)", 0}, {"repeat(auto-fit, 1px) repeat(10000, 1px)", 0}, {"repeat(9999, 1px) repeat(auto-fill, 1px 1px)", 0}, {"repeat(auto-fit, 1px 1px) repeat(9999, 1px)", 0},
	} {
		l := pieces(t, x.s)
		for _, definite := range []bool{true, false} {
			for _, size := range []int{0, 6400, api.MaxPx} {
				if x.count == 0 {
					limits(t, l, size, definite, 1, api.ErrLimit)
				} else if a := axis(t, l, size, definite, 1); len(a.Tracks) != x.count || len(a.Lines) != x.count+1 {
					t.Errorf("%s: %d, %d", x.s, len(a.Tracks), len(a.Lines))
				}
			}
		}
	}
	names := strings.TrimSpace(strings.Repeat("n ", api.MaxNames))
	a := axis(t, pieces(t, "["+names+"] repeat(10000, ["+names+"] 1px ["+names+"]) ["+names+"]"), 0, true, 0)
	for i, l := range a.Lines {
		if len(l) != 2*api.MaxNames {
			t.Fatal(i, len(l))
		}
	}
	if a := axis(t, pieces(t, "repeat(auto-fit, [a] 1px [b])"), api.MaxPx, true, 0); a.From != 0 || a.To != api.MaxLine || strings.Join(a.Lines[0], " ") != "a" || strings.Join(a.Lines[api.MaxLine-1], " ") != "b a" || strings.Join(a.Lines[api.MaxLine], " ") != "b" {
		t.Error(a.From, a.To)
	}
}

func TestAxisWhichError(t *testing.T) { // P15.3: Count's error ahead of there being too many tracks
	one, over := piece(both(px(1))), piece(both(api.Len{Kind: api.LenPct, N: api.MaxMille}))
	many := repeat(api.MaxRepeat, one, one)
	limits(t, []api.Piece{many, fill(over)}, api.MaxPx, true, 0, api.ErrOver)
	limits(t, []api.Piece{many, fill(over)}, api.MaxPx, false, 0, api.ErrLimit)
	limits(t, []api.Piece{many, over}, api.MaxPx, true, 0, api.ErrLimit)
	limits(t, []api.Piece{many, fill(over)}, api.MaxPx+1, false, 0, api.ErrArg)
	limits(t, []api.Piece{many}, 0, false, -1, api.ErrArg)
	limits(t, []api.Piece{many, named("a"), named("b")}, 0, true, 0, api.ErrArg)
}

func TestGood(t *testing.T) { // P15.4
	one := both(px(1))
	made := func(lines, tracks, from, to int) api.Axis {
		return api.Axis{Lines: make([][]string, lines), Tracks: slices.Repeat([]api.Track{one}, tracks), From: from, To: to}
	}
	for _, a := range []api.Axis{
		made(1, 0, 0, 0), made(2, 1, 0, 0), made(2, 1, 0, 1), made(4, 3, 0, 3), made(4, 3, 0, 1), made(4, 3, 1, 2), made(4, 3, 2, 3), made(4, 3, 0, 0), made(api.MaxLine+1, api.MaxLine, 0, 0), made(api.MaxLine+1, api.MaxLine, 0, api.MaxLine), made(api.MaxLine+1, api.MaxLine, api.MaxLine-1, api.MaxLine),
		{Lines: [][]string{{"any", "any", ""}}},
	} {
		if !expand.Good(a) {
			t.Errorf("%d lines, %d tracks, %d, %d", len(a.Lines), len(a.Tracks), a.From, a.To)
		}
	}
	for _, a := range []api.Axis{
		{}, made(0, 0, 0, 0), made(2, 0, 0, 0), made(0, 1, 0, 0), made(1, 1, 0, 0), made(3, 1, 0, 0), made(3, 3, 0, 0), made(5, 3, 0, 0), made(api.MaxLine+2, api.MaxLine+1, 0, 0), made(api.MaxLine+1, api.MaxLine+1, 0, 0),
		made(1, 0, 0, 1), made(1, 0, 1, 1), made(1, 0, -1, 0), made(4, 3, 1, 1), made(4, 3, 3, 3), made(4, 3, 1, 0), made(4, 3, 2, 1), made(4, 3, 0, 4), made(4, 3, 3, 4), made(4, 3, 4, 5), made(4, 3, -1, 0), made(4, 3, -1, 1), made(4, 3, -1, 3), made(4, 3, 0, -1), made(4, 3, -1, -1), made(4, 3, -2, -1), made(4, 3, 3, 0),
		made(4, 3, math.MinInt, 3), made(4, 3, math.MinInt, 0), made(4, 3, 0, math.MaxInt), made(4, 3, math.MaxInt, math.MaxInt), made(4, 3, math.MinInt, math.MaxInt), made(4, 3, math.MaxInt, math.MinInt), made(4, 3, 0, math.MinInt),
	} {
		if expand.Good(a) {
			t.Errorf("%d lines, %d tracks, %d, %d", len(a.Lines), len(a.Tracks), a.From, a.To)
		}
	}
	for _, x := range noRight() {
		for i := range 3 {
			a := made(4, 3, 0, 0)
			a.Tracks[i] = x
			if expand.Good(a) {
				t.Errorf("%v at %d", x, i)
			}
		}
	}
	for _, x := range noFixed() {
		if a := (api.Axis{Lines: make([][]string, 2), Tracks: []api.Track{x}}); !expand.Good(a) {
			t.Errorf("%v", x)
		}
	}
}

// some tells a template by chance, most of the time one that fills.
func some(random *rand.Rand) []api.Piece {
	fills := random.IntN(4) > 0
	length := func() api.Len {
		return []api.Len{unit(random.IntN(300)), unit(random.IntN(3000)), pct(random.IntN(60)), {Kind: api.LenPct, N: random.IntN(30000)}}[random.IntN(4)]
	}
	size := func() api.Piece {
		other := append(bodies(), length())[random.IntN(4)]
		switch n := random.IntN(8); {
		case !fills && n < 3:
			return piece(minmax(other, append(bodies(), fr(1))[random.IntN(4)]))
		case n < 5:
			return piece(both(length()))
		case n == 5:
			return piece(minmax(length(), other))
		case n == 6:
			return piece(minmax(other, length()))
		}
		return piece(minmax(length(), fr(random.IntN(3))))
	}
	var list func(n int, repeats bool) []api.Piece
	list = func(n int, repeats bool) []api.Piece {
		var l []api.Piece
		place := random.IntN(n)
		for i := range n + 1 {
			if random.IntN(3) == 0 {
				l = append(l, named(slices.Repeat([]string{"n" + strconv.Itoa(random.IntN(9))}, 1+random.IntN(3))...))
			}
			switch {
			case i == n:
			case repeats && fills && i == place:
				l = append(l, api.Piece{Kind: api.PieceFill + random.IntN(2), Inner: list(1+random.IntN(3), false)})
			case repeats && random.IntN(4) == 0:
				l = append(l, repeat(1+random.IntN(5), list(1+random.IntN(3), false)...))
			default:
				l = append(l, size())
			}
		}
		return l
	}
	return list(1+random.IntN(4), true)
}

// plain tells a template's names and tracks as they stand one behind the other, and the tracks that an auto-fit made.
func plain(l []api.Piece, times int) (flat []api.Piece, from, to int) {
	tracks := 0
	for _, p := range l {
		n, inner := 1, []api.Piece{p}
		switch p.Kind {
		case api.PieceRepeat:
			n, inner = p.Count, p.Inner
		case api.PieceFill, api.PieceFit:
			n, inner = times, p.Inner
		}
		ahead := tracks
		for range n {
			for _, x := range inner {
				flat = append(flat, x)
				tracks += x.Kind - api.PieceNames
			}
		}
		if p.Kind == api.PieceFit {
			from, to = ahead, tracks
		}
	}
	return flat, from, to
}

// need tells how much room names and tracks want, and how many tracks they are.
func need(t *testing.T, flat []api.Piece, size, gap int) (length, tracks int) {
	t.Helper()
	length = -gap
	for _, x := range flat {
		if x.Kind == api.PieceTrack {
			n, e := expand.Breadth(x.Track, size)
			if e != api.OK {
				t.Fatal(x.Track, size, int(e))
			}
			length, tracks = length+n+gap, tracks+1
		}
	}
	return length, tracks
}

func TestFollows(t *testing.T) { // P15.5, P15.6: of templates by chance
	random := rand.New(rand.NewPCG(15, 5))
	filled, more := 0, 0
	for range 3000 {
		l := some(random)
		size, gap := random.IntN(40000), random.IntN(2)*random.IntN(700)
		if !track.Good(l) {
			t.Fatal(l)
		}
		n, e := expand.Count(l, size, true, gap)
		if e != api.OK {
			t.Fatal(l, int(e))
		}
		if n > 0 {
			filled++
			if length, _ := need(t, first(plain(l, n+1)), size, gap); length <= size {
				t.Fatalf("%v has room for one time more than %d in %d with gaps of %d", l, n, size, gap)
			}
		}
		if n > 1 {
			more++
			if length, _ := need(t, first(plain(l, n)), size, gap); length > size {
				t.Fatalf("%v has no room for %d times in %d with gaps of %d", l, n, size, gap)
			}
		}
		agrees(t, l, n, axis(t, l, size, true, gap))
		agrees(t, l, min(n, 1), axis(t, l, size, false, gap))
	}
	if filled < 1000 || more < 500 {
		t.Error(filled, more)
	}
}

func first(flat []api.Piece, _, _ int) []api.Piece { return flat }

// agrees asks whether an axis is what the pieces say, if what fills is taken so often.
func agrees(t *testing.T, l []api.Piece, times int, a api.Axis) {
	t.Helper()
	flat, from, to := plain(l, times)
	lines, tracks := [][]string{nil}, []api.Track(nil)
	for _, x := range flat {
		if x.Kind == api.PieceNames {
			lines[len(tracks)] = append(lines[len(tracks)], x.Names...)
			continue
		}
		lines, tracks = append(lines, nil), append(tracks, x.Track)
	}
	if !slices.Equal(a.Tracks, tracks) || !slices.EqualFunc(a.Lines, lines, slices.Equal[[]string]) || a.From != from || a.To != to {
		t.Fatalf("%v, %d times: %v", l, times, a)
	}
}

func TestUnchanged(t *testing.T) { // rules 4 and 8: lists with names, tracks and pieces in the spare room behind them
	spare := func(names ...string) api.Piece { return named(append(names, "spare")[:len(names)]...) }
	inner := func(l ...api.Piece) []api.Piece { return append(l, named("spare"), piece(both(px(99))))[:len(l)] }
	fresh := func() []api.Piece {
		return inner(spare("a", "b"), repeat(2, inner(spare("c"), piece(both(px(1))), spare("d"))...), spare("e"), fit(inner(spare("f"), piece(both(px(2))), spare("g"))...), spare("h"))
	}
	l, want := fresh(), "a b c / d c / d e f / g f / g h"
	for range 2 {
		a := axis(t, l, 6*api.Unit, true, 0)
		if text(a) != want || sizes(a) != "1px 1px 2px 2px" {
			t.Error(a)
		}
		for i := range a.Lines { // no two lists of the answer, nor one of the template, are one
			a.Lines[i] = append(a.Lines[i], "more")
		}
		if text(a) != strings.ReplaceAll(want, " /", " more /")+" more" {
			t.Error(a)
		}
	}
	if whole := fresh(); !alike(l, whole) {
		t.Error(l, whole)
	}
}

// alike tells whether two lists of pieces are, their spare room too.
func alike(a, b []api.Piece) bool {
	return slices.EqualFunc(a[:len(b)+2], b[:len(b)+2], func(x, y api.Piece) bool {
		return x.Kind == y.Kind && x.Track == y.Track && x.Count == y.Count && slices.Equal(x.Names[:cap(y.Names)], y.Names[:cap(y.Names)]) && (len(x.Inner) == 0 && len(y.Inner) == 0 || alike(x.Inner, y.Inner))
	})
}
