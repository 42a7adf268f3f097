package tracks_test

import (
	"math"
	"slices"
	"testing"

	"parterre/api"
	"parterre/tracks"
)

func TestPlain(t *testing.T) { // P27.1
	w := func(l ...api.Want) []api.Want { return l }
	fr1, none := flexible(1000), []api.Want(nil)
	for _, x := range []struct {
		t       api.Tracks
		size    int
		wants   []api.Want
		stretch bool
		sizes   []int
	}{
		{row(0, one(px(6400)), fr1, one(auto())), 25600, w(want(2, 3, 3200, 3200, 3200)), false, []int{6400, 16000, 3200}},
		{row(0), 100, none, true, nil},
		{row(0), 0, none, false, nil},
		{row(0, one(px(7)), one(px(0))), 0, none, true, []int{7, 0}},

		// What is free lets tracks grow up to their limits, ahead of flexible ones.
		{row(0, between(px(5), px(30)), fr1), 100, none, false, []int{30, 70}},
		{row(0, between(px(5), px(30)), between(px(5), px(9))), 20, none, false, []int{11, 9}},
		{row(0, between(px(5), px(30)), between(px(5), px(9))), 11, none, false, []int{6, 5}},
		{row(0, between(px(5), px(30)), between(px(5), px(9))), 10, none, false, []int{5, 5}},
		{row(0, between(px(5), px(30)), between(px(5), px(9))), 9, none, false, []int{5, 5}},
		{row(0, between(px(5), px(30)), between(px(5), px(9))), 100, none, true, []int{30, 9}},
		{row(4, between(px(5), px(30)), between(px(5), px(9))), 20, none, false, []int{8, 8}},
		{row(0, between(px(30), px(5)), fr1), 100, none, false, []int{30, 70}},
		{row(0, one(auto()), fr1), 100, w(want(0, 1, 10, 20, 50)), false, []int{50, 50}},
		{row(0, one(auto()), fr1), 35, w(want(0, 1, 10, 20, 50)), false, []int{35, 0}},
		{row(0, one(auto()), fr1), 35, w(want(0, 1, 10, 20, 50), want(1, 2, 3, 9, 9)), false, []int{32, 3}},
		{row(0, one(auto()), fr1), 5, w(want(0, 1, 10, 20, 50), want(1, 2, 3, 9, 9)), true, []int{10, 3}},
		{row(0, one(least()), one(greatest()), one(auto())), 100, w(want(0, 1, 1, 4, 9), want(1, 2, 1, 4, 9), want(2, 3, 1, 4, 9)), false, []int{4, 9, 9}},
		{row(0, fit(px(6)), fit(px(60))), 100, w(want(0, 1, 1, 4, 9), want(1, 2, 1, 4, 9)), true, []int{6, 9}},
		{row(2, one(auto()), one(auto())), 100, w(want(0, 2, 10, 20, 40)), false, []int{19, 19}},

		// Flexible ones take what is left, as far as they have parts of it.
		{row(10, one(px(40)), fr1, flexible(2000)), 120, none, true, []int{40, 20, 40}},
		{row(10, one(px(40)), fr1, flexible(2000)), 121, none, true, []int{40, 20, 41}},
		{row(10, one(px(40)), fr1, flexible(2000)), 60, none, true, []int{40, 0, 0}},
		{row(10, one(px(40)), fr1, flexible(2000)), 0, none, true, []int{40, 0, 0}},
		{row(0, between(px(40), fr(1000)), fr1), 60, none, false, []int{40, 20}},
		{row(0, flexible(300), flexible(200)), 100, none, true, []int{30, 20}},

		// What is left then is stretched to auto ones.
		{row(0, one(auto()), flexible(500)), 100, w(want(0, 1, 10, 10, 10)), true, []int{55, 45}},
		{row(0, one(auto()), flexible(500)), 100, w(want(0, 1, 10, 10, 10)), false, []int{10, 45}},
		{row(0, one(auto()), fr1), 100, w(want(0, 1, 10, 10, 10)), true, []int{10, 90}},
		{row(0, one(auto()), one(auto()), one(px(10))), 31, none, true, []int{11, 10, 10}},
		{row(0, one(auto()), one(auto()), one(px(10))), 31, none, false, []int{0, 0, 10}},
		{row(5, one(auto()), between(px(3), auto()), one(greatest())), 31, w(want(2, 3, 1, 1, 1)), true, []int{9, 11, 1}},
		{row(5, one(auto()), one(auto())), 5, none, true, []int{0, 0}},
		{row(5, one(auto()), one(auto())), 6, none, true, []int{1, 0}},
		{row(5, one(auto()), one(auto())), 4, none, true, []int{0, 0}},
		{row(0, one(auto())), top, none, true, []int{top}},
		{row(0, flexible(1000)), top, none, false, []int{top}},

		// A percentage is of the size.
		{row(0, one(pct(50)), one(pct(10))), 31, none, true, []int{15, 3}},
		{row(0, between(auto(), pct(50)), fit(pct(10))), 100, w(want(0, 1, 1, 2, 80), want(1, 2, 1, 2, 80)), true, []int{50, 10}},

		// Tracks that are gone have nothing, whatever they were.
		{without(row(5, one(px(9)), fr1, one(auto()), one(px(4))), 0, 1), 100, none, true, []int{0, 0, 86, 4}},
		{without(row(0, one(auto()), one(auto()), fr1), 0, 2), 100, w(want(0, 1, 7, 7, 7), want(2, 3, 7, 7, 7)), true, []int{0, 100, 0}},
		{without(row(0, one(auto())), 0), 100, w(want(0, 1, 7, 7, 7)), true, []int{0}},
	} {
		asked{x.t, x.size, plain, x.wants, x.stretch}.gives(t, x.sizes...)
	}
}

func TestContent(t *testing.T) { // P27.1: sized for min-content and for max-content
	w := func(l ...api.Want) []api.Want { return l }
	fr1, none := flexible(1000), []api.Want(nil)
	for _, x := range []struct {
		t         api.Tracks
		wants     []api.Want
		low, high []int
	}{
		{row(0), none, nil, nil},
		{row(9, one(px(3)), one(auto()), fr1), none, []int{3, 0, 0}, []int{3, 0, 0}},
		{row(9, between(px(3), px(8)), between(px(8), px(3))), none, []int{3, 8}, []int{8, 8}},
		{row(9, one(least()), one(greatest()), one(auto()), fr1), w(want(0, 1, 1, 4, 9), want(1, 2, 1, 4, 9), want(2, 3, 1, 4, 9), want(3, 4, 1, 4, 9)), []int{4, 9, 4, 4}, []int{4, 9, 9, 9}},
		{row(0, fit(px(6)), fit(px(60))), w(want(0, 1, 1, 4, 9), want(1, 2, 1, 4, 9)), []int{4, 4}, []int{6, 9}},
		{row(0, fr1, flexible(2000)), w(want(0, 1, 1, 4, 30), want(1, 2, 1, 4, 9)), []int{4, 4}, []int{30, 60}},
		{row(5, fr1, flexible(2000), one(px(7))), w(want(0, 2, 0, 0, 44)), []int{0, 0, 7}, []int{13, 26, 7}},
		{row(5, fr1, between(px(20), px(50))), w(want(0, 2, 0, 0, 65)), []int{0, 20}, []int{40, 50}},
		{row(5, between(px(0), fr(1000)), between(px(20), px(50))), w(want(0, 2, 0, 0, 65)), []int{0, 20}, []int{10, 50}}, // tracks are full ahead of flexible ones
		{row(2, one(auto()), one(auto())), w(want(0, 2, 10, 20, 40)), []int{9, 9}, []int{19, 19}},
		{row(0, one(pct(50)), fit(pct(1))), w(want(0, 1, 1, 4, 9), want(1, 2, 1, 4, 9)), []int{4, 4}, []int{9, 9}},
		{without(row(0, one(px(7)), fr1, one(auto())), 0, 1), w(want(1, 2, 9, 9, 9), want(2, 3, 1, 4, 9)), []int{0, 0, 4}, []int{0, 0, 9}},
		{row(0, one(px(top-5)), one(auto())), w(want(1, 2, 1, 5, 5)), []int{top - 5, 5}, []int{top - 5, 5}},
	} {
		for _, size := range append(noSizes(), 0, 50, top) { // it counts for nothing, and so does stretch
			for _, stretch := range []bool{false, true} {
				asked{x.t, size, minimi, x.wants, stretch}.gives(t, x.low...)
				asked{x.t, size, maximi, x.wants, stretch}.gives(t, x.high...)
			}
		}
	}
}

func TestWrong(t *testing.T) { // P27.1: ErrArg
	modes := []int{plain, minimi, maximi}
	for _, stretch := range []bool{false, true} {
		for _, mode := range modes {
			for _, wrong := range wrongs() {
				asked{wrong, 50, mode, nil, stretch}.fails(t, api.ErrArg)
			}
			good := row(3, one(px(1)), one(auto()))
			for _, wrong := range []api.Want{want(-1, 1, 0, 0, 0), want(0, 0, 0, 0, 0), want(1, 0, 0, 0, 0), want(1, 3, 0, 0, 0), want(0, 1, -1, 0, 0), want(0, 1, 0, top+1, 0), want(0, 1, 0, 0, -1), want(math.MinInt, math.MaxInt, 0, 0, 0)} {
				asked{good, 50, mode, []api.Want{wrong}, stretch}.fails(t, api.ErrArg)
				asked{good, 50, mode, []api.Want{want(0, 1, 1, 1, 1), wrong}, stretch}.fails(t, api.ErrArg)
			}
			wants := slices.Repeat([]api.Want{want(1, 2, 1, 1, 1)}, api.MaxNodes+1)
			asked{good, 5, mode, wants[1:], false}.gives(t, 1, 1)
			asked{good, 5, mode, wants, stretch}.fails(t, api.ErrArg)
		}
		for _, size := range noSizes() {
			asked{row(0), size, plain, nil, stretch}.fails(t, api.ErrArg)
			asked{row(3, one(px(1)), one(auto())), size, plain, nil, stretch}.fails(t, api.ErrArg)
		}
		for _, mode := range []int{math.MinInt, -1, 3, math.MaxInt} {
			asked{row(0), 5, mode, nil, stretch}.fails(t, api.ErrArg)
			asked{row(3, one(px(1)), one(auto())), 5, mode, nil, stretch}.fails(t, api.ErrArg)
		}
	}
}

func TestOver(t *testing.T) { // P27.1: ErrOver, and what goes ahead of what
	huge := api.Len{Kind: api.LenPct, N: api.MaxMille}
	wrong := []api.Want{want(5, 5, 0, 0, 0)}
	for _, stretch := range []bool{false, true} {
		asked{row(0, one(px(1)), one(huge)), top, plain, nil, stretch}.fails(t, api.ErrOver)
		asked{row(0, one(px(1)), one(huge)), top, plain, wrong, stretch}.fails(t, api.ErrOver)
		asked{row(0, one(px(1)), one(huge)), top + 1, plain, nil, stretch}.fails(t, api.ErrArg)
		asked{row(0, one(px(1)), one(huge)), top, 3, nil, stretch}.fails(t, api.ErrArg)
		asked{without(row(0, one(px(1)), one(huge)), 1), top, plain, nil, stretch}.gives(t, 1, 0)
		asked{row(0, one(px(1)), one(huge)), top, minimi, nil, stretch}.gives(t, 1, 0)
		for _, mode := range []int{plain, minimi, maximi} {
			asked{row(0, one(px(top)), one(px(0))), 50, mode, nil, stretch}.gives(t, top, 0)
			asked{row(0, one(px(top)), one(px(1))), 50, mode, nil, stretch}.fails(t, api.ErrOver)
			asked{row(1, one(px(top-1)), one(px(0))), 50, mode, nil, stretch}.gives(t, top-1, 0)
			asked{row(1, one(px(top)), one(px(0))), 50, mode, nil, stretch}.fails(t, api.ErrOver)
			asked{row(1, one(px(top)), one(px(0))), 50, mode, wrong, stretch}.fails(t, api.ErrArg)
			asked{row(top, one(px(0)), one(px(0)), flexible(1000)), 50, mode, nil, stretch}.fails(t, api.ErrOver)
			asked{row(0, one(greatest()), one(greatest())), 50, mode, []api.Want{want(0, 1, 0, 0, top), want(1, 2, 0, 0, 1)}, stretch}.fails(t, api.ErrOver)
		}
		asked{row(0, between(px(1), px(top)), between(px(1), px(top))), top, plain, nil, stretch}.gives(t, top/2, top/2)
		asked{row(0, between(px(1), px(top)), between(px(1), px(top))), 0, minimi, nil, stretch}.gives(t, 1, 1)
		asked{row(0, between(px(1), px(top)), between(px(1), px(top))), 0, maximi, nil, stretch}.fails(t, api.ErrOver)
		asked{row(0, flexible(1000), flexible(2000)), 0, maximi, []api.Want{want(0, 1, 0, 0, top/2)}, stretch}.fails(t, api.ErrOver)
		asked{row(0, flexible(1000), flexible(1000)), 0, maximi, []api.Want{want(0, 1, 0, 0, top/2)}, stretch}.gives(t, top/2, top/2)
	}
}

func TestSum(t *testing.T) { // P27.2
	auto3 := []api.Track{one(auto()), one(auto()), one(auto())}
	for _, x := range []struct {
		t     api.Tracks
		sizes []int
		sum   int
		e     api.Errno
	}{
		{row(0), nil, 0, api.OK},
		{row(0), []int{}, 0, api.OK},
		{row(0, auto3...), []int{1, 2, 4}, 7, api.OK},
		{row(10, auto3...), []int{1, 2, 4}, 27, api.OK},
		{row(10, auto3...), []int{0, 0, 0}, 20, api.OK},
		{without(row(10, auto3...), 1), []int{1, 2, 4}, 17, api.OK}, // whatever is handed in of a track that is gone
		{row(10, one(px(99))), []int{5}, 5, api.OK},
		{row(0, auto3...), []int{top, 0, 0}, top, api.OK},
		{row(0, auto3...), []int{0, 1, top - 1}, top, api.OK},
		{row(1, auto3...), []int{0, 0, top - 2}, top, api.OK},
		{row(1, auto3...), []int{0, 0, top - 1}, 0, api.ErrOver},
		{row(0, auto3...), []int{top, 1, 0}, 0, api.ErrOver},
		{row(0, auto3...), []int{top, top, top}, 0, api.ErrOver},
		{row(top, auto3...), []int{0, 0, 0}, 0, api.ErrOver},
		{row(top/2, auto3...), []int{0, 0, 0}, top, api.OK},
		{row(top/2, auto3...), []int{1, 0, 0}, 0, api.ErrOver},
		{many(most, one(auto())), slices.Repeat([]int{3}, most), 3 * most, api.OK},
		{many(most, one(auto())), slices.Repeat([]int{top}, most), 0, api.ErrOver},
		{row(top, slices.Repeat(auto3[:1], most)...), slices.Repeat([]int{top}, most), 0, api.ErrOver},
	} {
		if n, e := tracks.Sum(x.t, x.sizes); n != x.sum || e != x.e {
			t.Errorf("%v, %v: %d, %d, not %d, %d", first(x.t.Ahead), first(x.sizes), n, int(e), x.sum, int(x.e))
		}
	}
}

func TestSumWrong(t *testing.T) { // P27.2: ErrArg goes ahead of ErrOver
	fails := func(x api.Tracks, sizes []int) {
		t.Helper()
		if n, e := tracks.Sum(x, sizes); n != 0 || e != api.ErrArg {
			t.Errorf("%v, %v: %d, %d", first(x.List), first(sizes), n, int(e))
		}
	}
	for _, wrong := range wrongs() {
		fails(wrong, make([]int, len(wrong.List)))
		fails(wrong, slices.Repeat([]int{top}, len(wrong.List)))
	}
	good := row(1, one(auto()), one(px(5)))
	for _, n := range []int{1, top} {
		for _, sizes := range [][]int{nil, {}, {n}, {n, n, 0}} {
			fails(good, sizes)
		}
		for _, wrong := range noSizes() {
			fails(good, []int{n, wrong})
			fails(good, []int{wrong, n})
			fails(row(0, one(auto())), []int{wrong})
		}
	}
	fails(row(0), []int{0})
}

func TestHandedIn(t *testing.T) { // rules 4 and 8; an answer is new memory
	x := row(3, one(auto()), flexible(1000), one(px(7)), one(auto()))
	wants := []api.Want{want(1, 3, 4, 5, 6), want(0, 1, 1, 2, 3), want(2, 4, 10, 20, 30)}
	spare := []int{1, 2, 3, 4, 99}
	list, gone, ahead, wanted := slices.Clone(x.List), slices.Clone(x.Gone), slices.Clone(x.Ahead), slices.Clone(wants)
	for _, mode := range []int{plain, minimi, maximi} {
		ask := asked{x, 100, mode, wants[:2], true}
		l, e := ask.tell()
		other := slices.Clone(l)
		l[0] = -9
		if again, _ := ask.tell(); e != api.OK || !slices.Equal(again, other) {
			t.Error(mode, l, again)
		}
	}
	if n, e := tracks.Sum(x, spare[:4]); n != 19 || e != api.OK {
		t.Error(n, int(e))
	}
	if !slices.Equal(list, x.List) || !slices.Equal(gone, x.Gone) || !slices.Equal(ahead, x.Ahead) || !slices.Equal(wanted, wants) || !slices.Equal(spare, []int{1, 2, 3, 4, 99}) {
		t.Error(x, wants, spare)
	}
}
