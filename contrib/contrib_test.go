package contrib_test

import (
	"math"
	"slices"
	"testing"

	"parterre/api"
	"parterre/contrib"
)

func TestOuter(t *testing.T) { // P30.1
	for _, x := range []struct {
		a, b api.Len
		want int
	}{
		{px(0), px(0), 0},
		{px(5), px(6), 11},
		{px(5), px(-6), -1},
		{px(-5), px(-6), -11},
		{px(5), word(api.LenAuto), 5},
		{pct(50), px(7), 7},
		{word(api.LenAuto), pct(50), 0},
		{px(top), px(top), 2 * top},
		{px(-top), px(-top), -2 * top},
		{px(top + 1), px(3), 3}, // no length
		{px(3), px(-top - 1), 3},
		{px(math.MaxInt), px(math.MinInt), 0},
		{px(math.MinInt), px(math.MinInt), 0},
		{api.Len{}, px(2), 2},
		{api.Len{N: 4}, api.Len{Kind: -1, N: 4}, 0},
		{api.Len{Kind: api.LenAuto, N: 4}, api.Len{Kind: api.LenFr, N: 4}, 0},
	} {
		for _, m := range [][2]api.Len{{x.a, x.b}, {x.b, x.a}} {
			beside := px(1000)
			cols := api.Style{Margin: [4]api.Len{beside, m[0], beside, m[1]}}
			rows := api.Style{Margin: [4]api.Len{m[0], beside, m[1], beside}}
			if a, b := contrib.Outer(cols, false), contrib.Outer(rows, true); a != x.want || b != x.want {
				t.Error(x, a, b)
			}
			if a, b := contrib.Outer(cols, true), contrib.Outer(rows, false); a != 2000 || b != 2000 {
				t.Error(x, a, b)
			}
		}
	}
}

func TestAutomatic(t *testing.T) { // P30.2: the least size is auto
	for _, x := range []struct {
		t     []api.Sizing
		least int
	}{
		{[]api.Sizing{track(auto, auto)}, 30},
		{[]api.Sizing{track(auto, cmin)}, 30},
		{[]api.Sizing{track(auto, cmax)}, 30},
		{[]api.Sizing{fixed(20)}, 0},
		{[]api.Sizing{track(fix, auto)}, 0},
		{[]api.Sizing{track(cmin, auto)}, 0},
		{[]api.Sizing{track(cmax, auto)}, 0},
		{[]api.Sizing{fixed(20), track(auto, auto)}, 30},
		{[]api.Sizing{track(auto, auto), track(cmin, cmax)}, 30},
		{[]api.Sizing{fixed(20), track(cmin, auto), fixed(9)}, 0},
		// Flexible ones.
		{[]api.Sizing{track(auto, fr)}, 30},
		{[]api.Sizing{track(fix, fr)}, 0},
		{[]api.Sizing{track(cmin, fr)}, 0},
		{[]api.Sizing{track(auto, fr), track(auto, auto)}, 0},
		{[]api.Sizing{track(auto, auto), track(auto, fr)}, 0},
		{[]api.Sizing{track(auto, auto), track(fix, fr)}, 0},
		{[]api.Sizing{track(auto, fr), track(auto, fr)}, 0},
		{[]api.Sizing{track(auto, fr), capped(auto, 5)}, 0},
		// What fixed ones let.
		{[]api.Sizing{capped(auto, 20)}, 20},
		{[]api.Sizing{capped(auto, 29)}, 29},
		{[]api.Sizing{capped(auto, 30)}, 30},
		{[]api.Sizing{capped(auto, 40)}, 30},
		{[]api.Sizing{capped(auto, 0)}, 0},
		{[]api.Sizing{capped(auto, inf)}, 30},
		{[]api.Sizing{capped(cmin, 20)}, 0},
		{[]api.Sizing{capped(auto, 20), fixed(4)}, 24},
		{[]api.Sizing{capped(auto, 20), fixed(11)}, 30},
		{[]api.Sizing{capped(auto, 20), track(fix, auto)}, 30},
		{[]api.Sizing{track(auto, auto), fixed(4)}, 30},
		{[]api.Sizing{fixed(3), capped(auto, 2), capped(cmax, 7)}, 12},
		// Those that fit.
		{[]api.Sizing{fit(20, 0)}, 20},
		{[]api.Sizing{fit(20, 25)}, 25},
		{[]api.Sizing{fit(25, 20)}, 25},
		{[]api.Sizing{fit(0, 0)}, 0},
		{[]api.Sizing{fit(31, 0)}, 30},
		{[]api.Sizing{fit(20, 0), capped(auto, 5)}, 25},
		{[]api.Sizing{fit(20, 0), track(auto, cmax)}, 30},
		{[]api.Sizing{fit(20, inf-1), fit(20, inf-1)}, 30},
		{[]api.Sizing{capped(auto, inf), capped(auto, inf), fixed(5)}, 30},
	} {
		in(x.t...).is(t, x.least, 30, 70)
	}
}

func TestGaps(t *testing.T) { // P30.2: those within what is spanned, and the tracks of it, count alone
	x := in(capped(auto, 1), capped(auto, 2), fixed(4), track(auto, fr))
	x.ahead = []int{500, 8, 16, 500}
	span := func(from, to int) child { return x.with(func(x *child) { x.from, x.to = from, to }) }
	span(0, 1).is(t, 1, 30, 70)
	span(1, 2).is(t, 2, 30, 70)
	span(0, 2).is(t, 11, 30, 70)
	span(1, 3).is(t, 22, 30, 70)
	span(0, 3).is(t, 30, 30, 70)
	span(2, 3).is(t, 0, 30, 70)
	span(3, 4).is(t, 30, 30, 70)
	span(2, 4).is(t, 0, 30, 70)
	span(0, 3).with(func(x *child) { x.c.Min = 33 }).is(t, 31, 33, 70)
}

func TestMargins(t *testing.T) { // P30.2: each is more by Outer, 0 at least
	x := in(track(auto, auto))
	x.apart(px(5), px(6)).is(t, 41, 41, 81)
	x.apart(px(-5), px(6)).is(t, 31, 31, 71)
	x.apart(px(-20), px(-10)).is(t, 0, 0, 40)
	x.apart(px(-20), px(-11)).is(t, 0, 0, 39)
	x.apart(px(-70), px(-10)).is(t, 0, 0, 0)
	x.apart(word(api.LenAuto), px(6)).is(t, 36, 36, 76)
	x.apart(pct(10), word(api.LenAuto)).is(t, 30, 30, 70)
	in(fixed(20)).apart(px(5), px(6)).is(t, 11, 41, 81)
	in(fixed(20)).apart(px(-5), px(-6)).is(t, 0, 19, 59)
	// What fixed tracks let is less by them.
	y := in(capped(auto, 20))
	y.apart(px(5), px(6)).is(t, 20, 41, 81)
	y.apart(px(12), px(8)).is(t, 20, 41+9, 90)
	y.apart(px(12), px(9)).is(t, 21, 51, 91)
	y.apart(px(-5), px(-4)).is(t, 20, 21, 61)
	y.apart(px(-5), px(-5)).is(t, 20, 20, 60)
	y.apart(px(-5), px(-6)).is(t, 19, 19, 59)
	y.apart(px(-40), px(-6)).is(t, 0, 0, 24)
	in(capped(auto, 20), capped(auto, 3)).apart(px(1), px(1)).is(t, 23, 32, 72)
	// An example of the document.
	z := in(track(auto, auto)).apart(px(320), px(320))
	z.c = api.Content{Min: 10, Max: 30}
	z.is(t, 650, 650, 670)
}

func TestSizes(t *testing.T) { // P30.2: of a size that tells a length all three are Clamp of it
	auto, none := word(api.LenAuto), word(api.LenNone)
	tracks := [][]api.Sizing{{track(api.SizeAuto, api.SizeAuto)}, {fixed(20)}, {capped(api.SizeAuto, 20)}, {track(api.SizeAuto, fr), track(api.SizeAuto, fr)}}
	for _, l := range tracks {
		x := in(l...)
		x.sized(px(50), auto, none).is(t, 50, 50, 50)
		x.sized(px(0), auto, none).is(t, 0, 0, 0)
		x.sized(px(top), auto, none).is(t, top, top, top)
		x.sized(word(api.LenMin), auto, none).is(t, 30, 30, 30)
		x.sized(word(api.LenMax), auto, none).is(t, 70, 70, 70)
		x.sized(px(50), px(60), none).is(t, 60, 60, 60)
		x.sized(px(50), px(60), px(40)).is(t, 60, 60, 60)
		x.sized(px(50), auto, px(40)).is(t, 40, 40, 40)
		x.sized(px(50), word(api.LenMax), px(40)).is(t, 70, 70, 70)
		x.sized(px(50), auto, word(api.LenMin)).is(t, 30, 30, 30)
		x.sized(px(50), pct(100), pct(1)).is(t, 50, 50, 50)
		x.sized(px(50), px(60), none).apart(px(3), px(4)).is(t, 67, 67, 67)
		x.sized(px(5), auto, none).apart(px(-3), px(-4)).is(t, 0, 0, 0)
	}
	in(track(api.SizeAuto, api.SizeAuto)).sized(pct(50), auto, none).is(t, 30, 30, 70) // of no definite size
	in(fixed(20)).sized(pct(50), auto, none).is(t, 0, 30, 70)
}

func TestLimits(t *testing.T) { // P30.2: of one that tells none
	auto, none := word(api.LenAuto), word(api.LenNone)
	x, y, z := in(track(api.SizeAuto, api.SizeAuto)), in(fixed(20)), in(capped(api.SizeAuto, 20))
	for _, c := range []struct {
		low, high         api.Len
		x, y, z, min, max int
	}{
		{auto, none, 30, 0, 20, 30, 70},
		{auto, px(50), 30, 0, 20, 30, 50},
		{auto, px(25), 25, 0, 20, 25, 25},
		{auto, px(15), 15, 0, 15, 15, 15},
		{auto, px(0), 0, 0, 0, 0, 0},
		{auto, word(api.LenMin), 30, 0, 20, 30, 30},
		{auto, word(api.LenMax), 30, 0, 20, 30, 70},
		{auto, pct(1), 30, 0, 20, 30, 70},
		{px(10), none, 10, 10, 10, 30, 70},
		{px(40), none, 40, 40, 40, 40, 70},
		{px(90), none, 90, 90, 90, 90, 90},
		{px(90), px(50), 90, 90, 90, 90, 90},
		{px(10), px(5), 10, 10, 10, 10, 10},
		{px(0), none, 0, 0, 0, 30, 70},
		{word(api.LenMin), none, 30, 30, 30, 30, 70},
		{word(api.LenMax), none, 70, 70, 70, 70, 70},
		{word(api.LenMin), px(5), 30, 30, 30, 30, 30},
		{pct(100), none, 0, 0, 0, 30, 70}, // not auto, and of no definite size
		{pct(100), px(50), 0, 0, 0, 30, 50},
	} {
		for _, size := range []api.Len{auto, pct(50)} {
			x.sized(size, c.low, c.high).is(t, c.x, c.min, c.max)
			y.sized(size, c.low, c.high).is(t, c.y, c.min, c.max)
			z.sized(size, c.low, c.high).is(t, c.z, c.min, c.max)
			y.sized(size, c.low, c.high).apart(px(2), px(4)).is(t, c.y+6, c.min+6, c.max+6)
		}
	}
	x.with(func(x *child) { x.c = api.Content{Min: 70, Max: 30} }).is(t, 70, 70, 30)
}

func TestOver(t *testing.T) { // P30.2: ErrOver, if one of the three is no length
	auto, none := word(api.LenAuto), word(api.LenNone)
	for _, l := range []struct {
		t     api.Sizing
		takes int // how often what stands in it is its least size
	}{{track(api.SizeAuto, api.SizeAuto), 1}, {fixed(20), 0}} {
		x := in(l.t)
		x.apart(px(top), px(-70)).is(t, top-70+30*l.takes, top-40, top)
		x.apart(px(top-69), px(0)).fails(t, api.ErrOver)
		x.apart(px(top), px(top)).fails(t, api.ErrOver)
		turned := x.with(func(x *child) { x.c = api.Content{Min: 70, Max: 30} })
		turned.apart(px(-70), px(top)).is(t, top-70+70*l.takes, top, top-40)
		turned.apart(px(-69), px(top)).fails(t, api.ErrOver)
		x.sized(px(top), auto, none).is(t, top, top, top)
		x.sized(px(top), auto, none).apart(px(1), px(0)).fails(t, api.ErrOver)
		x.sized(px(top), auto, none).apart(px(1), px(-1)).is(t, top, top, top)
		x.sized(auto, px(top), none).apart(px(0), px(1)).fails(t, api.ErrOver)
		x.with(func(x *child) { x.c = api.Content{Min: top, Max: top} }).apart(px(-top), px(-top)).is(t, 0, 0, 0)
	}
}

func TestWrong(t *testing.T) { // P30.2: ErrArg, ahead of ErrOver
	for _, margin := range []int{5, top} {
		good := in(track(auto, auto), fixed(20)).apart(px(margin), px(0))
		fails := func(change func(x *child)) {
			t.Helper()
			good.with(change).fails(t, api.ErrArg)
		}
		for _, x := range [][2]int{{-1, 1}, {0, 0}, {1, 1}, {1, 0}, {0, 3}, {2, 3}, {math.MinInt, math.MaxInt}, {math.MaxInt, math.MinInt}, {-1, -1}, {0, math.MinInt}} {
			fails(func(c *child) { c.from, c.to = x[0], x[1] })
		}
		for _, ahead := range [][]int{nil, {}, {0}, {0, 0, 0}, {-1, 0}, {0, -1}, {0, top + 1}, {math.MinInt, 0}} {
			fails(func(x *child) { x.ahead = ahead })
			fails(func(x *child) { x.ahead, x.to = ahead, 1 })
		}
		for _, wrong := range []api.Sizing{{}, {Min: auto, Max: auto, Base: 1}, {Min: auto, Max: auto, Base: -1, Limit: inf}, {Min: fr, Max: fr, Limit: inf}, {Min: auto, Max: auto, Fit: true, Limit: inf}, {Min: auto, Max: auto, Limit: inf + 1}} {
			fails(func(x *child) { x.t = []api.Sizing{wrong, fixed(20)} })
			fails(func(x *child) { x.t, x.from = []api.Sizing{wrong, fixed(20)}, 1 }) // one that is not spanned, too
			fails(func(x *child) { x.t, x.to = []api.Sizing{fixed(20), wrong}, 1 })
		}
		fails(func(x *child) { x.t, x.ahead = nil, nil })
		for _, n := range noSizes() {
			for _, c := range []api.Content{{Min: n, Max: 70}, {Min: 30, Max: n}, {Min: n, Max: n}} {
				fails(func(x *child) { x.c = c })
				fails(func(x *child) { x.c, x.s.Width = c, px(5) })
				fails(func(x *child) { x.c, x.s.Width, x.s.MinWidth = c, word(api.LenMin), px(5) })
			}
		}
	}
}

func TestWrongStyles(t *testing.T) { // P30.2: s is not Good, whatever it is that is wrong, along the other axis too
	for _, change := range []func(s *api.Style){
		func(s *api.Style) { *s = api.Style{} },
		func(s *api.Style) { s.Width = px(-1) },
		func(s *api.Style) { s.Width = word(api.LenNone) },
		func(s *api.Style) { s.Height = px(top + 1) },
		func(s *api.Style) { s.MinWidth = api.Len{Kind: api.LenAuto, N: 1} },
		func(s *api.Style) { s.MinHeight = api.Len{} },
		func(s *api.Style) { s.MaxWidth = word(api.LenAuto) },
		func(s *api.Style) { s.MaxHeight = px(-1) },
		func(s *api.Style) { s.Margin[0] = px(top + 1) },
		func(s *api.Style) { s.Margin[1] = px(-top - 1) },
		func(s *api.Style) { s.Margin[2] = api.Len{} },
		func(s *api.Style) { s.Margin[3] = word(api.LenMin) },
		func(s *api.Style) { s.Order = api.MaxOrder + 1 },
		func(s *api.Style) { s.JustifySelf = 0 },
		func(s *api.Style) { s.Rows = []api.Piece{{}} },
		func(s *api.Style) { s.AutoCols = nil },
		func(s *api.Style) { s.Content = [][]api.Box{{}} },
	} {
		for _, rows := range []bool{false, true} {
			for _, margin := range []int{5, top} {
				x := in(track(auto, auto)).apart(px(margin), px(0))
				x.rows = rows
				change(&x.s)
				if w, e := x.want(); w != (api.Want{}) || e != api.ErrArg {
					t.Error(x, w, int(e))
				}
			}
		}
	}
}

func TestHandedIn(t *testing.T) { // rules 4 and 8
	spare := []api.Sizing{capped(auto, 20), fixed(7), {Min: 99}}
	gaps := []int{0, 2, -99}
	x := in(spare[:2]...)
	x.t, x.ahead = spare[:2], gaps[:2]
	tracks, ahead := slices.Clone(spare), slices.Clone(gaps)
	for range 2 {
		x.is(t, 29, 30, 70)
		x.with(func(x *child) { x.from = 1 }).is(t, 0, 30, 70)
	}
	x.with(func(x *child) { x.to = 3 }).fails(t, api.ErrArg)
	if !slices.Equal(spare, tracks) || !slices.Equal(gaps, ahead) {
		t.Error(spare, gaps)
	}
}
