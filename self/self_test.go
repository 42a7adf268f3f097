package self_test

import (
	"math"
	"testing"

	"parterre/api"
	"parterre/self"
)

// margins holds what Margins tells.
func margins(t *testing.T, m [4]api.Len, width int, definite bool, want [4]api.Margin, fault api.Errno) {
	t.Helper()
	if told, e := self.Margins(api.Style{Margin: m}, width, definite); told != want || e != fault {
		t.Errorf("%v of %d, %v: %v, %d, not %v, %d", m, width, definite, told, int(e), want, int(fault))
	}
}

func TestMargins(t *testing.T) { // P29.1
	auto := word(api.LenAuto)
	m := [4]api.Len{px(1), auto, pct(10), px(-4)}
	margins(t, m, 200, true, [4]api.Margin{{N: 1}, {Auto: true}, {N: 20}, {N: -4}}, api.OK)
	margins(t, m, 0, true, [4]api.Margin{{N: 1}, {Auto: true}, {}, {N: -4}}, api.OK)
	margins(t, m, 200, false, [4]api.Margin{{N: 1}, {Auto: true}, {}, {N: -4}}, api.OK)
	margins(t, [4]api.Len{pct(-10), pct(25), px(0), auto}, 201, true, [4]api.Margin{{N: -21}, {N: 50}, {}, {Auto: true}}, api.OK) // rounded down
	margins(t, [4]api.Len{px(top), px(-top), pct(100), pct(-100)}, top, true, [4]api.Margin{{N: top}, {N: -top}, {N: top}, {N: -top}}, api.OK)
	margins(t, [4]api.Len{auto, auto, auto, auto}, top, true, [4]api.Margin{{Auto: true}, {Auto: true}, {Auto: true}, {Auto: true}}, api.OK)
	margins(t, [4]api.Len{word(api.LenMin), word(api.LenNone), {}, {Kind: -1, N: 7}}, 5, true, [4]api.Margin{}, api.OK)
	margins(t, [4]api.Len{}, 5, true, [4]api.Margin{}, api.OK)
}

func TestMarginsWrong(t *testing.T) { // P29.1: the first error
	for i := range 4 {
		for fault, wrong := range map[api.Errno][]api.Len{
			api.ErrOver: {huge(), {Kind: api.LenPct, N: -api.MaxMille}},
			api.ErrArg:  {px(top + 1), px(-top - 1), px(math.MinInt), px(math.MaxInt), {Kind: api.LenPct, N: api.MaxMille + 1}, {Kind: api.LenPct, N: math.MinInt}},
		} {
			for _, v := range wrong {
				m := [4]api.Len{px(1), word(api.LenAuto), px(3), px(4)}
				m[i] = v
				margins(t, m, top, true, [4]api.Margin{}, fault)
			}
		}
	}
	margins(t, [4]api.Len{px(1), huge(), px(top + 1), px(1)}, top, true, [4]api.Margin{}, api.ErrOver)
	margins(t, [4]api.Len{px(1), px(1), px(top + 1), huge()}, top, true, [4]api.Margin{}, api.ErrArg)
	margins(t, [4]api.Len{px(1), huge(), pct(5), px(1)}, top, false, [4]api.Margin{{N: 1}, {}, {}, {N: 1}}, api.OK)
	for _, width := range noSizes() {
		for _, definite := range []bool{false, true} {
			margins(t, [4]api.Len{px(1), px(2), px(3), px(4)}, width, definite, [4]api.Margin{}, api.ErrArg)
			margins(t, [4]api.Len{huge(), px(2), px(3), px(4)}, width, definite, [4]api.Margin{}, api.ErrArg)
		}
	}
}

// limit holds what Limit tells.
func limit(t *testing.T, v api.Len, basis int, definite bool, c api.Content, want int, told bool, fault api.Errno) {
	t.Helper()
	if n, is, e := self.Limit(v, basis, definite, c); n != want || is != told || e != fault {
		t.Errorf("%v of %d, %v, %v: %d, %v, %d, not %d, %v, %d", v, basis, definite, c, n, is, int(e), want, told, int(fault))
	}
}

func TestLimit(t *testing.T) { // P29.2
	c := api.Content{Min: 30, Max: 70}
	for _, definite := range []bool{false, true} {
		for v, want := range map[api.Len]int{px(0): 0, px(1): 1, px(99): 99, px(top): top, px(-1): 0, px(-top): 0, word(api.LenMin): 30, word(api.LenMax): 70} {
			limit(t, v, 50, definite, c, want, true, api.OK)
			limit(t, v, 0, definite, c, want, true, api.OK)
		}
		for _, v := range []api.Len{word(api.LenAuto), word(api.LenNone), {}, {Kind: api.LenFr, N: 1000}, {Kind: 8, N: 5}, {Kind: -1, N: 5}} {
			limit(t, v, 50, definite, c, 0, false, api.OK)
		}
	}
	for v, want := range map[api.Len]int{pct(10): 5, pct(3): 1, pct(0): 0, pct(-3): 0, pct(200): 100} {
		limit(t, v, 50, true, c, want, true, api.OK)
		limit(t, v, 0, true, c, 0, true, api.OK)
		limit(t, v, 50, false, c, 0, false, api.OK)
	}
	limit(t, pct(100), top, true, c, top, true, api.OK)
	limit(t, word(api.LenMin), 0, false, api.Content{Min: top, Max: 0}, top, true, api.OK)
	limit(t, word(api.LenMax), top, true, api.Content{Min: top, Max: 0}, 0, true, api.OK)
}

func TestLimitWrong(t *testing.T) { // P29.2
	c := api.Content{Min: 30, Max: 70}
	for _, v := range []api.Len{px(5), pct(5), huge(), word(api.LenMin), word(api.LenMax), word(api.LenAuto), {}} {
		for _, definite := range []bool{false, true} {
			for _, basis := range noSizes() {
				limit(t, v, basis, definite, c, 0, false, api.ErrArg)
			}
			for _, wrong := range noContents() {
				limit(t, v, top, definite, wrong, 0, false, api.ErrArg)
			}
		}
	}
	for _, n := range []int{math.MinInt, -top - 1, top + 1, math.MaxInt} {
		limit(t, px(n), 50, true, c, 0, false, api.ErrArg)
		limit(t, px(n), 0, false, c, 0, false, api.ErrArg)
	}
	limit(t, huge(), top, true, c, 0, false, api.ErrOver)
	limit(t, api.Len{Kind: api.LenPct, N: -api.MaxMille}, top, true, c, 0, false, api.ErrOver)
	limit(t, api.Len{Kind: api.LenPct, N: api.MaxMille + 1}, 1, true, c, 0, false, api.ErrArg)
	limit(t, huge(), top, false, c, 0, false, api.OK)
}

// clamp holds what Clamp tells.
func clamp(t *testing.T, n int, low, high api.Len, basis int, definite bool, c api.Content, want int, fault api.Errno) {
	t.Helper()
	if n, e := self.Clamp(n, low, high, basis, definite, c); n != want || e != fault {
		t.Errorf("%v to %v of %d, %v, %v: %d, %d, not %d, %d", low, high, basis, definite, c, n, int(e), want, int(fault))
	}
}

func TestClamp(t *testing.T) { // P29.2
	auto, none := word(api.LenAuto), word(api.LenNone)
	c := api.Content{Min: 30, Max: 70}
	for _, x := range []struct {
		n         int
		low, high api.Len
		definite  bool
		want      int
	}{
		{50, auto, none, true, 50},
		{0, auto, none, false, 0},
		{top, auto, none, true, top},
		{50, px(49), px(51), true, 50},
		{50, px(50), px(50), true, 50},
		{50, px(51), none, true, 51},
		{50, auto, px(49), true, 49},
		{50, auto, px(0), true, 0},
		{50, auto, px(-7), true, 0},
		{50, px(-7), none, true, 50},
		{50, px(60), px(40), true, 60}, // low goes ahead of high
		{50, px(45), px(40), true, 45},
		{20, word(api.LenMin), word(api.LenMax), true, 30},
		{90, word(api.LenMin), word(api.LenMax), false, 70},
		{20, word(api.LenMax), word(api.LenMin), false, 70},
		{90, auto, word(api.LenMin), true, 30},
		{5, word(api.LenMax), none, false, 70},
		{50, pct(30), pct(40), true, 40},
		{10, pct(30), pct(40), true, 30},
		{50, pct(30), pct(40), false, 50},
		{10, pct(30), pct(40), false, 10},
		{5, px(top), px(top), true, top},
		{5, auto, api.Len{}, true, 5},
	} {
		clamp(t, x.n, x.low, x.high, 100, x.definite, c, x.want, api.OK)
	}
}

func TestClampWrong(t *testing.T) { // P29.2: the first error, high's ahead of low's
	auto, none := word(api.LenAuto), word(api.LenNone)
	c := api.Content{Min: 30, Max: 70}
	for _, definite := range []bool{false, true} {
		for _, n := range noSizes() {
			clamp(t, n, auto, none, 0, definite, c, 0, api.ErrArg)
			clamp(t, n, huge(), huge(), top, definite, c, 0, api.ErrArg)
			clamp(t, 5, auto, none, n, definite, c, 0, api.ErrArg)
			clamp(t, 5, px(5), px(6), n, definite, c, 0, api.ErrArg)
		}
		for _, wrong := range noContents() {
			clamp(t, 5, auto, none, 0, definite, wrong, 0, api.ErrArg)
			clamp(t, 5, huge(), huge(), top, definite, wrong, 0, api.ErrArg)
		}
		clamp(t, 5, px(top+1), none, 0, definite, c, 0, api.ErrArg)
		clamp(t, 5, auto, px(top+1), 0, definite, c, 0, api.ErrArg)
	}
	clamp(t, 5, huge(), none, top, true, c, 0, api.ErrOver)
	clamp(t, 5, auto, huge(), top, true, c, 0, api.ErrOver)
	clamp(t, 5, px(-top-1), huge(), top, true, c, 0, api.ErrOver)
	clamp(t, 5, huge(), px(-top-1), top, true, c, 0, api.ErrArg)
	clamp(t, 5, huge(), huge(), top, false, c, 5, api.OK)
}

func TestInner(t *testing.T) { // P29.3
	auto := api.Margin{Auto: true}
	for _, x := range []struct {
		area int
		a, b api.Margin
		want int
	}{
		{100, api.Margin{}, api.Margin{}, 100},
		{100, api.Margin{N: 10}, api.Margin{N: 20}, 70},
		{100, api.Margin{N: 10}, api.Margin{N: 90}, 0},
		{100, api.Margin{N: 10}, api.Margin{N: 91}, 0},
		{100, api.Margin{N: -10}, api.Margin{N: -20}, 130},
		{100, auto, api.Margin{N: 1}, 99},
		{100, auto, auto, 100},
		{0, api.Margin{}, api.Margin{}, 0},
		{0, api.Margin{N: top}, api.Margin{N: top}, 0},
		{0, api.Margin{N: -top}, api.Margin{}, top},
		{1, api.Margin{N: -top}, api.Margin{}, top},
		{top, api.Margin{}, api.Margin{}, top},
		{top, api.Margin{}, api.Margin{N: -1}, top},
		{top, api.Margin{N: 2}, api.Margin{N: -1}, top - 1},
		{top, api.Margin{N: -top}, api.Margin{N: -top}, top},
		{top, api.Margin{N: -top}, api.Margin{N: top}, top},
	} {
		if n := self.Inner(x.area, x.a, x.b); n != x.want {
			t.Error(x, n)
		}
	}
	for _, wrong := range noSizes() {
		if n := self.Inner(wrong, api.Margin{N: -50}, api.Margin{N: 1}); n != 0 {
			t.Error(wrong, n)
		}
	}
	for _, wrong := range noMargins() {
		if a, b := self.Inner(top, wrong, api.Margin{}), self.Inner(top, api.Margin{}, wrong); a != 0 || b != 0 {
			t.Error(wrong, a, b)
		}
	}
}

func TestUsed(t *testing.T) { // P29.3
	auto, ten := api.Margin{Auto: true}, api.Margin{N: 10}
	c := api.Content{Min: 30, Max: 70}
	x := plain(100, c, true)
	x.is(t, 100)
	x.with(func(x *box) { x.a = ten }).is(t, 90)
	x.with(func(x *box) { x.a, x.b = ten, api.Margin{N: -30} }).is(t, 120)
	x.with(func(x *box) { x.a, x.b = ten, ten; x.area = 15 }).is(t, 0)
	for _, m := range [][2]api.Margin{{auto, {}}, {{}, auto}, {auto, auto}} { // as wide as what stands in it
		x.with(func(x *box) { x.a, x.b = m[0], m[1] }).is(t, 70)
		x.with(func(x *box) { x.a, x.b = m[0], m[1]; x.area = 50 }).is(t, 50)
		x.with(func(x *box) { x.a, x.b = m[0], m[1]; x.area = 20 }).is(t, 30)
	}
	for area, want := range map[int]int{100: 70, 70: 70, 69: 69, 31: 31, 30: 30, 29: 30, 0: 30} {
		plain(area, c, false).is(t, want)
		plain(area, c, false).with(func(x *box) { x.area += 20; x.a, x.b = ten, ten }).is(t, want)
	}
	plain(50, api.Content{Min: 70, Max: 30}, false).is(t, 70)
	for v, want := range map[api.Len]int{px(55): 55, px(0): 0, px(-5): 0, px(top): top, pct(25): 25, pct(300): 300, word(api.LenMin): 30, word(api.LenMax): 70} {
		for _, stretch := range []bool{false, true} {
			plain(100, c, stretch).with(func(x *box) { x.v = v }).is(t, want)
			plain(100, c, stretch).with(func(x *box) { x.v, x.a, x.b = v, ten, auto }).is(t, want) // percentages are of the area, with its margins
		}
	}
}

func TestUsedLimits(t *testing.T) { // P29.3: Clamp, by area
	c := api.Content{Min: 30, Max: 70}
	for _, x := range []struct {
		v, low, high api.Len
		stretched    int
		not          int
	}{
		{word(api.LenAuto), px(80), word(api.LenNone), 100, 80},
		{word(api.LenAuto), px(120), word(api.LenNone), 120, 120},
		{word(api.LenAuto), px(80), px(40), 80, 80},
		{word(api.LenAuto), word(api.LenAuto), px(40), 40, 40},
		{word(api.LenAuto), word(api.LenAuto), pct(60), 60, 60},
		{word(api.LenAuto), pct(90), word(api.LenNone), 100, 90},
		{word(api.LenAuto), word(api.LenMin), word(api.LenMin), 30, 30},
		{word(api.LenAuto), word(api.LenAuto), word(api.LenMax), 70, 70},
		{px(5), word(api.LenMax), word(api.LenNone), 70, 70},
		{px(95), px(10), word(api.LenMin), 30, 30},
		{pct(50), pct(60), pct(55), 60, 60},
	} {
		plain(100, c, true).with(func(b *box) { b.v, b.low, b.high = x.v, x.low, x.high }).is(t, x.stretched)
		plain(100, c, false).with(func(b *box) { b.v, b.low, b.high = x.v, x.low, x.high }).is(t, x.not)
	}
}

func TestUsedWrong(t *testing.T) { // P29.3
	c := api.Content{Min: 30, Max: 70}
	for _, stretch := range []bool{false, true} {
		for _, v := range []api.Len{word(api.LenAuto), px(5), pct(5), huge()} {
			x := plain(top, c, stretch).with(func(x *box) { x.v = v })
			for _, wrong := range noSizes() {
				x.with(func(x *box) { x.area = wrong }).fails(t, api.ErrArg)
			}
			for _, wrong := range noMargins() {
				x.with(func(x *box) { x.a = wrong }).fails(t, api.ErrArg)
				x.with(func(x *box) { x.b = wrong }).fails(t, api.ErrArg)
			}
			for _, wrong := range noContents() {
				x.with(func(x *box) { x.c = wrong }).fails(t, api.ErrArg)
			}
		}
		x := plain(top, c, stretch)
		for fault, v := range map[api.Errno]api.Len{api.ErrOver: huge(), api.ErrArg: px(top + 1)} {
			x.with(func(x *box) { x.v = v }).fails(t, fault)
			x.with(func(x *box) { x.low = v }).fails(t, fault)
			x.with(func(x *box) { x.high = v }).fails(t, fault)
		}
		for _, l := range [][2]api.Len{{huge(), px(top + 1)}, {px(top + 1), huge()}} { // v's, high's, low's
			first := api.ErrOver
			if l[0] != huge() {
				first = api.ErrArg
			}
			x.with(func(x *box) { x.v, x.low, x.high = l[0], l[1], l[1] }).fails(t, first)
			x.with(func(x *box) { x.low, x.high = l[1], l[0] }).fails(t, first)
		}
	}
}

func TestPlace(t *testing.T) { // P29.4
	none, auto, ten := api.Margin{}, api.Margin{Auto: true}, api.Margin{N: 10}
	const start, end, center = api.AlignStart, api.AlignEnd, api.AlignCenter
	for _, x := range []struct {
		area, size int
		a, b       api.Margin
		align      int
		want       int
	}{
		{100, 41, none, none, start, 0}, {100, 41, none, none, center, 29}, {100, 41, none, none, end, 59},
		{100, 41, ten, ten, start, 10}, {100, 41, ten, ten, center, 29}, {100, 41, ten, ten, end, 49},
		{100, 41, ten, none, center, 34}, {100, 41, none, ten, center, 24}, {100, 41, none, ten, end, 49},
		{100, 41, auto, auto, start, 29}, {100, 41, auto, auto, center, 29}, {100, 41, auto, auto, end, 29},
		{100, 41, auto, none, start, 59}, {100, 41, auto, none, center, 59}, {100, 41, auto, ten, end, 49},
		{100, 41, none, auto, start, 0}, {100, 41, none, auto, center, 0}, {100, 41, ten, auto, end, 10},
		{100, 99, auto, auto, end, 0}, {100, 99, auto, none, start, 1}, {100, 99, none, auto, end, 0},
		{100, 100, none, none, start, 0}, {100, 100, auto, auto, end, 0}, {100, 100, auto, none, center, 0}, {100, 90, ten, none, end, 10}, {100, 90, ten, auto, end, 10},
		{100, 120, none, none, start, 0}, {100, 120, none, none, center, -10}, {100, 121, none, none, center, -11}, {100, 120, none, none, end, -20},
		{100, 120, auto, auto, start, 0}, {100, 120, auto, auto, center, -10}, {100, 120, auto, auto, end, -20}, // Auto counts for nothing where there is no room
		{100, 120, auto, none, start, 0}, {100, 120, auto, none, end, -20}, {100, 120, none, auto, center, -10}, {100, 120, ten, auto, end, -20}, {100, 85, ten, ten, center, 7}, {100, 85, ten, ten, end, 5}, {100, 85, ten, ten, start, 10},
		{100, 20, api.Margin{N: -30}, none, start, -30}, {100, 20, api.Margin{N: -30}, none, end, 80}, {100, 20, api.Margin{N: -30}, auto, end, -30}, {100, 20, auto, api.Margin{N: -30}, start, 110}, {100, 20, api.Margin{N: -31}, none, center, 24},
		{0, 0, none, none, end, 0}, {0, 0, auto, auto, center, 0},
		{top, 0, none, api.Margin{N: -top}, end, 2 * top}, {top, 0, api.Margin{N: -top}, api.Margin{N: -top}, center, top / 2},
		{0, top, api.Margin{N: top}, api.Margin{N: top}, end, -2 * top}, {0, top, api.Margin{N: top}, api.Margin{N: top}, center, -top / 2}, {0, top, api.Margin{N: top}, api.Margin{N: top}, start, top},
	} {
		if n := self.Place(x.area, x.size, x.a, x.b, x.align); n != x.want {
			t.Error(x, n)
		}
	}
	for _, align := range []int{math.MinInt, -1, 0, api.AlignAuto, api.AlignNormal, api.AlignStretch, api.AlignBetween, api.AlignAround, api.AlignEvenly, 10, math.MaxInt} { // as start
		if a, b, c := self.Place(100, 41, ten, none, align), self.Place(100, 141, ten, none, align), self.Place(100, 40, auto, ten, align); a != 10 || b != 10 || c != 50 {
			t.Error(align, a, b, c)
		}
	}
}

func TestPlaceWrong(t *testing.T) { // P29.4
	ten := api.Margin{N: 10}
	for align := api.AlignAuto; align <= api.AlignEvenly; align++ {
		for _, n := range noSizes() {
			if a, b := self.Place(n, 7, ten, ten, align), self.Place(70, n, ten, ten, align); a != 0 || b != 0 {
				t.Error(n, align, a, b)
			}
		}
		for _, m := range noMargins() {
			if a, b := self.Place(70, 7, m, ten, align), self.Place(70, 7, ten, m, align); a != 0 || b != 0 {
				t.Error(m, align, a, b)
			}
		}
	}
}
