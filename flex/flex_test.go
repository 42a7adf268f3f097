package flex_test

import (
	"slices"
	"testing"

	"parterre/api"
	"parterre/flex"
)

func TestUnit(t *testing.T) { // P26.1
	one, none := flexible(1000, 0), flexible(0, 0)
	for _, x := range []struct {
		s           []api.Sizing
		space, unit int
	}{
		{nil, 50, 0},
		{[]api.Sizing{px(10)}, 50, 0},
		{[]api.Sizing{one}, 50, 50},
		{[]api.Sizing{one}, 0, 0},
		{[]api.Sizing{one}, top, top},
		{[]api.Sizing{px(10), one, flexible(2000, 0)}, 50, 14},
		{[]api.Sizing{px(10), one, flexible(2000, 0)}, 52, 14},
		{[]api.Sizing{px(10), one, flexible(2000, 0)}, 53, 15},
		{[]api.Sizing{px(50), one}, 50, 0},
		{[]api.Sizing{px(60), one}, 50, 0},
		{[]api.Sizing{px(top), px(top), one}, top, 0},
		{[]api.Sizing{{Min: auto, Max: auto, Base: 10, Limit: 90}, one}, 50, 40},
		{[]api.Sizing{{Min: auto, Max: cmax, Fit: true, Cap: 3, Base: 10, Limit: 90}, one}, 50, 40},
		{[]api.Sizing{flexible(300, 0)}, 50, 50},
		{[]api.Sizing{flexible(300, 0), flexible(300, 0)}, 50, 50},
		{[]api.Sizing{flexible(300, 0), flexible(701, 0)}, 50, 50},
		{[]api.Sizing{flexible(300, 0), flexible(701, 0)}, 2000, 1999},
		{[]api.Sizing{none}, 50, 50},
		{[]api.Sizing{flexible(0, 1)}, 50, 0},
		{[]api.Sizing{flexible(0, 1), none}, 50, 49},
		{[]api.Sizing{flexible(0, 1), one}, 50, 49},
		{[]api.Sizing{flexible(1000, 50)}, 50, 50},
		{[]api.Sizing{flexible(1000, 51)}, 50, 0},
		{[]api.Sizing{flexible(300, 15)}, 50, 50},
		{[]api.Sizing{flexible(300, 16)}, 50, 0},
		{[]api.Sizing{flexible(1000, 25), one}, 50, 25},
		{[]api.Sizing{flexible(1000, 26), one}, 50, 24},
		{[]api.Sizing{flexible(1000, 17), one, one}, 50, 17},
		{[]api.Sizing{flexible(1000, 16), one, one}, 50, 17},
		{[]api.Sizing{flexible(1000, 15), flexible(1000, 20), one}, 45, 10},
		{[]api.Sizing{flexible(1000, 12), flexible(1000, 20), one}, 45, 13},
		{[]api.Sizing{flexible(1000, 13), flexible(1000, 20), one}, 45, 12},
		{[]api.Sizing{flexible(1000, 51), one}, 50, 0},
		{[]api.Sizing{flexible(1000, 30), flexible(1000, 30)}, 50, 0},
		{[]api.Sizing{flexible(api.MaxMille, top), flexible(api.MaxMille, 0)}, top, 0},
		{[]api.Sizing{flexible(api.MaxMille, top/2), flexible(api.MaxMille, 0)}, top, 32000},
		{[]api.Sizing{flexible(api.MaxMille, top/2+1), flexible(api.MaxMille, 0)}, top, 32000},
		{[]api.Sizing{flexible(api.MaxMille, top-1), flexible(1, 0)}, top, 1},
		{[]api.Sizing{flexible(api.MaxMille, 0)}, 1, 1},
		{[]api.Sizing{flexible(1001, 0)}, top, 68650825911},
		{slices.Repeat([]api.Sizing{one}, many+5), 2*(many+5) + 1, 3},
		{slices.Repeat([]api.Sizing{flexible(1000, 1)}, many+5), many + 5, 1},
		{slices.Repeat([]api.Sizing{flexible(1000, 1)}, many+5), many + 4, 0},
	} {
		if n := flex.Unit(x.s, x.space); n != x.unit {
			t.Errorf("%v in %d: %d, not %d", first(x.s), x.space, n, x.unit)
		}
	}
}

func TestUnitNot(t *testing.T) { // P26.1: what may not be handed in
	one := flexible(1000, 0)
	for _, wrong := range wrongs() {
		for _, s := range [][]api.Sizing{{wrong}, {wrong, one}, {one, wrong}} {
			for _, space := range append(noSizes(), 0, 50, top) {
				if n := flex.Unit(s, space); n != 0 {
					t.Error(s, space, n)
				}
			}
		}
	}
	for _, space := range noSizes() {
		if n := flex.Unit([]api.Sizing{px(0), one}, space); n != 0 {
			t.Error(space, n)
		}
	}
}

func TestFill(t *testing.T) { // P26.2
	one, none := flexible(1000, 0), flexible(0, 0)
	for _, x := range []struct {
		s     []api.Sizing
		ahead []int
		size  int
		bases []int
	}{
		{nil, nil, 50, nil},
		{[]api.Sizing{px(10)}, []int{0}, 50, []int{10}},
		{[]api.Sizing{px(10), one, flexible(3000, 0)}, []int{0, 0, 0}, 50, []int{10, 10, 30}},
		{[]api.Sizing{flexible(1000, 30), one}, []int{0, 0}, 50, []int{30, 20}},
		{[]api.Sizing{one, flexible(1000, 30)}, []int{0, 0}, 50, []int{20, 30}},
		{[]api.Sizing{one, one, one}, []int{0, 2, 2}, 14, []int{3, 3, 4}},
		{[]api.Sizing{one, one, one}, []int{4, 0, 0}, 14, []int{3, 3, 4}},
		{[]api.Sizing{one, one, one}, []int{0, 2, 2}, 15, []int{3, 4, 4}},
		{[]api.Sizing{px(90), flexible(1000, 7)}, []int{0, 0}, 50, []int{90, 7}},
		{[]api.Sizing{one, flexible(1000, 7)}, []int{0, 60}, 50, []int{0, 7}},
		{[]api.Sizing{one, one}, []int{0, 50}, 50, []int{0, 0}},
		{[]api.Sizing{one, one}, []int{0, 49}, 50, []int{0, 1}},
		{[]api.Sizing{one, one}, []int{top, top}, top, []int{0, 0}},
		{[]api.Sizing{flexible(300, 0)}, []int{0}, 50, []int{15}},
		{[]api.Sizing{flexible(300, 0)}, []int{0}, 53, []int{15}},
		{[]api.Sizing{flexible(300, 0), flexible(699, 0)}, []int{0, 0}, 1000, []int{300, 699}},
		{[]api.Sizing{flexible(300, 0), flexible(699, 0)}, []int{0, 0}, 1003, []int{300, 701}},
		{[]api.Sizing{flexible(300, 0), flexible(700, 0)}, []int{0, 0}, 1003, []int{300, 703}},
		{[]api.Sizing{flexible(300, 0), flexible(701, 0)}, []int{0, 0}, 1001, []int{300, 701}},
		{[]api.Sizing{flexible(300, 15), flexible(300, 16), none}, []int{0, 0, 0}, 50, []int{15, 16, 0}},
		{[]api.Sizing{flexible(300, 10), flexible(300, 16), none}, []int{0, 0, 0}, 50, []int{10, 16, 0}},
		{[]api.Sizing{flexible(300, 9), flexible(300, 16), none}, []int{0, 0, 0}, 50, []int{10, 16, 0}},
		{[]api.Sizing{none, flexible(0, 5)}, []int{0, 0}, 50, []int{0, 5}},
		{[]api.Sizing{none, flexible(0, 5), one}, []int{0, 0, 0}, 50, []int{0, 5, 45}},
		{[]api.Sizing{flexible(2000, 31), flexible(400, 0)}, []int{0, 0}, 36, []int{31, 2}},
		{[]api.Sizing{flexible(1000, 15), flexible(1000, 20), one}, []int{0, 0, 0}, 45, []int{15, 20, 10}},
		{[]api.Sizing{flexible(1000, 12), flexible(1000, 20), one}, []int{0, 0, 0}, 45, []int{12, 20, 13}},
		{[]api.Sizing{one}, []int{0}, top, []int{top}},
		{[]api.Sizing{flexible(api.MaxMille, 0), flexible(api.MaxMille, top/2)}, []int{0, 0}, top, []int{top / 2, top / 2}},
		{[]api.Sizing{flexible(api.MaxMille, 0), flexible(api.MaxMille, top/2+1)}, []int{0, 0}, top, []int{top/2 - 1, top/2 + 1}},
		{[]api.Sizing{flexible(999, 0)}, []int{0}, top, []int{68650757259}},
	} {
		hold(t, flex.Fill(x.s, x.ahead, x.size), grown(x.s, x.bases...))
	}
}

func TestGrow(t *testing.T) { // P26.3
	one, none := flexible(1000, 0), flexible(0, 0)
	for _, x := range []struct {
		s     []api.Sizing
		ahead []int
		wants []api.Want
		bases []int
	}{
		{nil, nil, nil, nil},
		{[]api.Sizing{px(3)}, []int{0}, []api.Want{want(0, 1, 50)}, []int{3}},
		{[]api.Sizing{flexible(1000, 10), flexible(2000, 5), px(3)}, []int{0, 0, 0}, nil, []int{10, 20, 3}},
		{[]api.Sizing{flexible(1000, 10), flexible(2000, 21), px(3)}, []int{0, 0, 0}, nil, []int{11, 22, 3}},
		{[]api.Sizing{flexible(1000, 10), flexible(2000, 20), px(30)}, []int{0, 0, 0}, nil, []int{10, 20, 30}},
		{[]api.Sizing{flexible(500, 10)}, []int{0}, nil, []int{10}},
		{[]api.Sizing{flexible(500, 10), flexible(1500, 0)}, []int{0, 0}, nil, []int{10, 15}},
		{[]api.Sizing{flexible(500, 10), flexible(1500, 16)}, []int{0, 0}, nil, []int{10, 16}},
		{[]api.Sizing{flexible(500, 10), flexible(1500, 17)}, []int{0, 0}, nil, []int{10, 18}},
		{[]api.Sizing{flexible(0, 10), one, none}, []int{0, 0, 0}, nil, []int{10, 10, 0}},
		{[]api.Sizing{one, one}, []int{0, 4}, []api.Want{want(0, 2, 44)}, []int{20, 20}},
		{[]api.Sizing{one, one}, []int{0, 4}, []api.Want{want(0, 2, 45)}, []int{21, 21}},
		{[]api.Sizing{one, one}, []int{9, 4}, []api.Want{want(0, 1, 44)}, []int{44, 44}},
		{[]api.Sizing{one, one}, []int{0, 4}, []api.Want{want(1, 2, 44)}, []int{44, 44}},
		{[]api.Sizing{one, one}, []int{0, 44}, []api.Want{want(0, 2, 44)}, []int{0, 0}},
		{[]api.Sizing{one, one}, []int{0, 45}, []api.Want{want(0, 2, 44)}, []int{0, 0}},
		{[]api.Sizing{one, px(10), flexible(3000, 0)}, []int{0, 1, 2}, []api.Want{want(0, 3, 53)}, []int{10, 10, 30}},
		{[]api.Sizing{one, px(10), flexible(3000, 0)}, []int{0, 1, 2}, []api.Want{want(0, 2, 53)}, []int{42, 10, 126}},
		{[]api.Sizing{one, px(10), flexible(3000, 0)}, []int{0, 1, 2}, []api.Want{want(1, 2, 53)}, []int{0, 10, 0}},
		{[]api.Sizing{one, px(10), flexible(3000, 0)}, []int{0, 1, 2}, []api.Want{want(0, 2, 53), want(0, 3, 53), want(1, 2, 99)}, []int{42, 10, 126}},
		{[]api.Sizing{one, px(10), flexible(3000, 0)}, []int{0, 1, 2}, []api.Want{want(0, 3, 53), want(0, 2, 53)}, []int{42, 10, 126}},
		{[]api.Sizing{one, px(10), flexible(3000, 0)}, []int{0, 1, 2}, []api.Want{want(0, 2, 53), want(0, 2, 13), want(0, 2, 33)}, []int{42, 10, 126}},
		{[]api.Sizing{flexible(300, 0)}, []int{0}, []api.Want{want(0, 1, 50)}, []int{15}},
		{[]api.Sizing{flexible(300, 0), one}, []int{0, 0}, []api.Want{want(0, 1, 50)}, []int{15, 50}},
		{[]api.Sizing{none, one}, []int{0, 0}, []api.Want{want(0, 1, 50)}, []int{0, 50}},
		{[]api.Sizing{flexible(1000, 30), one}, []int{0, 0}, []api.Want{want(0, 2, 70)}, []int{35, 35}},
		{[]api.Sizing{flexible(1000, 30), one}, []int{0, 0}, []api.Want{want(0, 2, 50)}, []int{30, 30}},
		{[]api.Sizing{flexible(500, 30), one}, []int{0, 0}, []api.Want{want(0, 2, 75)}, []int{30, 45}},
		{[]api.Sizing{flexible(500, 30), one}, []int{0, 0}, []api.Want{want(0, 2, 50)}, []int{30, 30}},
		{[]api.Sizing{{Min: auto, Max: fr, Fr: 1000, Base: 3, Limit: 8}, {Min: auto, Max: fr, Fr: 2000, Base: 3, Limit: inf}}, []int{0, 0}, []api.Want{want(0, 2, 15)}, []int{5, 10}},
		{[]api.Sizing{flexible(api.MaxMille, 0), one}, []int{0, 0}, []api.Want{want(0, 1, top)}, []int{top, 64000}},
		{[]api.Sizing{flexible(api.MaxMille, 0), one}, []int{0, 0}, []api.Want{want(1, 2, top)}, []int{top, top}},
		{[]api.Sizing{flexible(1001, 0), flexible(1000, top)}, []int{0, 0}, nil, []int{top, top}},
		{[]api.Sizing{flexible(999, 0), flexible(1000, top)}, []int{0, 0}, nil, []int{68650757259, top}},
	} {
		hold(t, flex.Grow(x.s, x.ahead, x.wants), grown(x.s, x.bases...))
	}
}

func TestGrowByMax(t *testing.T) { // P26.3: nothing else of a want counts
	s, ahead := []api.Sizing{flexible(1000, 0), flexible(1000, 0)}, []int{0, 4}
	w := api.Want{To: 2, Least: 900, Min: top, Max: 44}
	hold(t, flex.Grow(s, ahead, []api.Want{w}), grown(s, 20, 20))
}

func TestLimits(t *testing.T) { // P26.3, and of Fill: a Limit is never less than the Base, nor less than it was
	s := []api.Sizing{{Min: cmin, Max: fr, Fr: 1000, Base: 1, Limit: 1}, {Min: fix, Max: fr, Fr: 1000, Base: 1, Limit: 5}, {Min: cmax, Max: fr, Fr: 1000, Base: 1, Limit: 80}, {Min: auto, Max: fr, Fr: 1000, Base: 1, Limit: inf}, {Min: auto, Max: auto, Base: 1, Limit: 2}}
	for _, l := range [][]api.Sizing{flex.Fill(s, make([]int, 5), 41), flex.Grow(s, make([]int, 5), []api.Want{want(0, 5, 41)})} {
		for i, n := range []int{10, 10, 80, inf, 2} {
			x := s[i]
			if x.Limit = n; i < 4 {
				x.Base = 10
			}
			if l[i] != x {
				t.Error(i, l[i], x)
			}
		}
	}
}

func TestAsItIs(t *testing.T) { // P26.2, P26.3: what may not be handed in
	asIs := func(s []api.Sizing, ahead []int, size int, wants ...api.Want) {
		t.Helper()
		hold(t, flex.Fill(s, ahead, size), s)
		hold(t, flex.Grow(s, ahead, wants), s)
	}
	one, had := flexible(1000, 0), flexible(1000, 5) // Grow would let the first one be as great
	for _, wrong := range wrongs() {
		for _, s := range [][]api.Sizing{{wrong, one, had}, {one, wrong, had}, {one, had, wrong}} {
			asIs(s, []int{0, 0, 0}, 50)
			asIs(s, []int{0, 0, 0}, 50, want(0, 2, 90))
		}
	}
	s := []api.Sizing{one, had}
	for _, ahead := range [][]int{nil, {0}, {0, 0, 0}, {-1, 0}, {0, -1}, {top + 1, 0}, {0, top + 1}} {
		asIs(s, ahead, 50)
		asIs(s, ahead, 50, want(0, 2, 90))
	}
	for _, n := range noSizes() {
		hold(t, flex.Fill(s, []int{0, 0}, n), s)
		hold(t, flex.Grow(s, []int{0, 0}, []api.Want{want(0, 1, 90), want(0, 2, n)}), s)
		hold(t, flex.Grow(s, []int{0, 0}, []api.Want{{To: 1, Least: n}}), s)
		hold(t, flex.Grow(s, []int{0, 0}, []api.Want{{To: 1, Min: n}}), s)
	}
	for _, w := range []api.Want{want(0, 0, 90), want(1, 1, 90), want(1, 0, 90), want(-1, 1, 90), want(0, 3, 90), want(2, 3, 90)} {
		hold(t, flex.Grow(s, []int{0, 0}, []api.Want{want(0, 1, 90), w}), s)
	}
	wants := slices.Repeat([]api.Want{want(0, 1, 90)}, api.MaxNodes+1)
	hold(t, flex.Grow(s, []int{0, 0}, wants), s)
	hold(t, flex.Grow(s, []int{0, 0}, wants[:api.MaxNodes]), grown(s, 90, 90))
	asIs(nil, []int{0}, 50)
	hold(t, flex.Grow(nil, nil, []api.Want{want(0, 1, 90)}), nil)
}

func TestMany(t *testing.T) { // P26.2: as many as fixed's Share takes; of more it tells nothing
	s := slices.Repeat([]api.Sizing{flexible(1000, 2)}, many+1)
	ahead := make([]int, many+1)
	hold(t, flex.Fill(s[:many], ahead[:many], 3*many), slices.Repeat([]api.Sizing{flexible(1000, 3)}, many))
	hold(t, flex.Fill(s, ahead, 3*many+3), s)
	s[7] = flexible(1000, 9)
	l := slices.Repeat([]api.Sizing{flexible(1000, 3)}, many+1)
	l[7] = s[7]
	hold(t, flex.Fill(s, ahead, 3*many+9), l)
	hold(t, flex.Grow(s, ahead, nil), slices.Repeat([]api.Sizing{flexible(1000, 9)}, many+1))
}

func TestHandedIn(t *testing.T) { // rules 4 and 8; an answer is new memory
	all := func() []api.Sizing {
		return []api.Sizing{flexible(1000, 1), px(5), flexible(1500, 2), {Min: auto, Max: fr, Fr: 7, Limit: inf}}
	}
	s, ahead, wants := all(), []int{0, 1, 2, 3}, []api.Want{want(0, 3, 50), want(0, 1, 20), want(0, 4, 999)}
	for _, l := range [][]api.Sizing{flex.Fill(s[:3], ahead[:3], 99), flex.Fill(s[:3], ahead[:3], -1), flex.Fill(s[:3], ahead[:3], 0), flex.Grow(s[:3], ahead[:3], wants[:2]), flex.Grow(s[:3], ahead[:3], wants), flex.Grow(s[:3], ahead[:3], nil)} {
		l[0].Base, l[1].Base = -7, -7
		if l = append(l[:3], api.Sizing{Min: 77}); len(l) != 4 {
			t.Fatal(l)
		}
	}
	if n := flex.Unit(s[:3], 30); n != 10 {
		t.Error(n)
	}
	hold(t, s, all())
	if !slices.Equal(ahead, []int{0, 1, 2, 3}) || !slices.Equal(wants, []api.Want{want(0, 3, 50), want(0, 1, 20), want(0, 4, 999)}) {
		t.Error(ahead, wants)
	}
}
