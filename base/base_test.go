package base_test

import (
	"math"
	"slices"
	"testing"

	"parterre/api"
	"parterre/base"
)

func px(n int) api.Len   { return api.Len{Kind: api.LenPx, N: n} }
func pct(n int) api.Len  { return api.Len{Kind: api.LenPct, N: n} } // thousandths
func fr(n int) api.Len   { return api.Len{Kind: api.LenFr, N: n} }  // thousandths
func kind(k int) api.Len { return api.Len{Kind: k} }

func minmax(a, b api.Len) api.Track { return api.Track{Min: a, Max: b} }

func both(v api.Len) api.Track { return minmax(v, v) }

func fit(v api.Len) api.Track {
	return api.Track{Min: kind(api.LenAuto), Max: kind(api.LenMax), Fit: true, Limit: v}
}

// noSizes are sizes that may not be definite.
func noSizes() []int {
	return []int{math.MinInt, -api.MaxPx - 1, -api.MaxPx, -1, api.MaxPx + 1, math.MaxInt}
}

// noTracks are sizes of tracks that may not be.
func noTracks() []api.Track {
	l := []api.Track{{}, {Min: px(1)}, {Max: px(1)}, {Limit: px(1)}, {Fit: true}, minmax(fr(1), px(1)), both(fr(1)), {Min: px(1), Max: px(1), Limit: px(1)}, {Min: px(1), Max: px(1), Fit: true, Limit: px(1)}, {Min: kind(api.LenAuto), Max: kind(api.LenMax), Limit: px(1)}, fit(api.Len{}), fit(kind(api.LenAuto)), fit(fr(1)), fit(px(-1)), fit(pct(-1)), fit(pct(api.MaxMille + 1))}
	for _, v := range []api.Len{{}, {Kind: api.LenAuto, N: 1}, {Kind: api.LenMin, N: -1}, kind(api.LenNone), kind(8), kind(-1), px(-1), px(api.MaxPx + 1), px(math.MinInt), px(math.MaxInt), pct(-1), pct(api.MaxMille + 1), pct(math.MinInt), pct(math.MaxInt)} {
		l = append(l, both(v), minmax(v, px(1)), minmax(px(1), v))
	}
	for _, n := range []int{math.MinInt, -1, api.MaxMille + 1, math.MaxInt} {
		l = append(l, minmax(kind(api.LenAuto), fr(n)))
	}
	return l
}

// starts holds how a track begins, and that it is Good, and raised (P22.4).
func starts(t *testing.T, x api.Track, size int, definite bool, want api.Sizing) {
	t.Helper()
	s, e := base.Start(x, size, definite)
	if s != want || e != api.OK {
		t.Errorf("%v in %d, %v: %v, %d, not %v", x, size, definite, s, int(e), want)
	}
	if !base.Good(s) || base.Raise(s) != s {
		t.Errorf("%v in %d, %v: %v is not Good, or not raised", x, size, definite, s)
	}
}

// fails holds that a track begins with an error.
func fails(t *testing.T, x api.Track, size int, definite bool, want api.Errno) {
	t.Helper()
	if s, e := base.Start(x, size, definite); s != (api.Sizing{}) || e != want {
		t.Errorf("%v in %d, %v: %v, %d, not %d", x, size, definite, s, int(e), int(want))
	}
}

func TestExample(t *testing.T) {
	starts(t, minmax(px(640), px(320)), 0, false, api.Sizing{Min: api.SizeFixed, Max: api.SizeFixed, Base: 640, Limit: 640})
	starts(t, minmax(kind(api.LenAuto), fr(1000)), 0, false, api.Sizing{Min: api.SizeAuto, Max: api.SizeFr, Fr: 1000, Limit: api.Inf})
}

// breadth is a size, its kind and its length where a size of 1000 is definite, and its kind where none is.
type breadth struct {
	v                   api.Len
	kind, length, other int
}

func breadths() []breadth {
	return []breadth{
		{px(0), api.SizeFixed, 0, api.SizeFixed}, {px(1), api.SizeFixed, 1, api.SizeFixed}, {px(640), api.SizeFixed, 640, api.SizeFixed}, {px(api.MaxPx), api.SizeFixed, api.MaxPx, api.SizeFixed},
		{pct(0), api.SizeFixed, 0, api.SizeAuto}, {pct(99), api.SizeFixed, 0, api.SizeAuto}, {pct(100), api.SizeFixed, 1, api.SizeAuto}, {pct(50099), api.SizeFixed, 500, api.SizeAuto}, {pct(100000), api.SizeFixed, 1000, api.SizeAuto}, {pct(250000), api.SizeFixed, 2500, api.SizeAuto}, {pct(api.MaxMille), api.SizeFixed, 10737418, api.SizeAuto},
		{kind(api.LenAuto), api.SizeAuto, 0, api.SizeAuto}, {kind(api.LenMin), api.SizeMin, 0, api.SizeMin}, {kind(api.LenMax), api.SizeMax, 0, api.SizeMax},
	}
}

func TestKinds(t *testing.T) { // P22.1: each least size with each greatest one
	for _, a := range breadths() {
		for _, b := range breadths() {
			s := api.Sizing{Min: a.kind, Max: b.kind, Base: a.length, Limit: api.Inf}
			if b.kind == api.SizeFixed {
				s.Limit = max(a.length, b.length)
			}
			starts(t, minmax(a.v, b.v), 1000, true, s)
			s = api.Sizing{Min: a.other, Max: b.other, Limit: api.Inf}
			if a.other == api.SizeFixed {
				s.Base = a.length
			}
			if b.other == api.SizeFixed {
				s.Limit = max(s.Base, b.length)
			}
			for _, size := range append(noSizes(), 0, 1000, api.MaxPx) { // where it is not definite it counts for nothing
				starts(t, minmax(a.v, b.v), size, false, s)
			}
		}
	}
}

func TestFr(t *testing.T) { // P22.1
	for _, a := range breadths() {
		for _, n := range []int{0, 1, 999, 1000, 1500, api.MaxMille} {
			starts(t, minmax(a.v, fr(n)), 1000, true, api.Sizing{Min: a.kind, Max: api.SizeFr, Fr: n, Base: a.length, Limit: api.Inf})
			s := api.Sizing{Min: a.other, Max: api.SizeFr, Fr: n, Limit: api.Inf}
			if a.other == api.SizeFixed {
				s.Base = a.length
			}
			starts(t, minmax(a.v, fr(n)), 1000, false, s)
		}
	}
}

func TestFit(t *testing.T) { // P22.1
	for _, a := range breadths() {
		s := api.Sizing{Min: api.SizeAuto, Max: api.SizeMax, Limit: api.Inf}
		fits := s
		fits.Fit, fits.Cap = true, a.length
		switch a.v.Kind {
		case api.LenPx:
			starts(t, fit(a.v), 1000, true, fits)
			starts(t, fit(a.v), 1000, false, fits)
			starts(t, fit(a.v), -1, false, fits)
		case api.LenPct:
			starts(t, fit(a.v), 1000, true, fits)
			starts(t, fit(a.v), 1000, false, s)
			starts(t, fit(a.v), -1, false, s)
		}
	}
}

func TestSizes(t *testing.T) { // P22.1: of the edges of sizes
	for _, x := range []struct{ size, half int }{{0, 0}, {1, 0}, {2, 1}, {3, 1}, {api.MaxPx - 1, api.MaxPx/2 - 1}, {api.MaxPx, api.MaxPx / 2}} {
		starts(t, both(pct(50000)), x.size, true, api.Sizing{Min: api.SizeFixed, Max: api.SizeFixed, Base: x.half, Limit: x.half})
		starts(t, minmax(pct(50000), pct(100000)), x.size, true, api.Sizing{Min: api.SizeFixed, Max: api.SizeFixed, Base: x.half, Limit: x.size})
		starts(t, minmax(pct(100000), pct(50000)), x.size, true, api.Sizing{Min: api.SizeFixed, Max: api.SizeFixed, Base: x.size, Limit: x.size})
		starts(t, fit(pct(50000)), x.size, true, api.Sizing{Min: api.SizeAuto, Max: api.SizeMax, Fit: true, Cap: x.half, Limit: api.Inf})
		starts(t, both(px(7)), x.size, true, api.Sizing{Min: api.SizeFixed, Max: api.SizeFixed, Base: 7, Limit: 7})
	}
}

// overs are tracks of which a percentage of MaxPx is no length.
func overs() []api.Track {
	over := pct(100001)
	l := []api.Track{both(over), fit(over), minmax(over, fr(1)), both(pct(api.MaxMille))}
	for _, v := range []api.Len{px(0), px(api.MaxPx), pct(0), pct(100000), kind(api.LenAuto), kind(api.LenMin), kind(api.LenMax)} {
		l = append(l, minmax(over, v), minmax(v, over))
	}
	return l
}

func TestOver(t *testing.T) { // P22.1: a percentage whose length is none
	for _, x := range overs() {
		fails(t, x, api.MaxPx, true, api.ErrOver)
		for _, y := range []struct {
			size     int
			definite bool
		}{{api.MaxPx, false}, {1, true}, {0, true}, {math.MaxInt, false}} {
			if s, e := base.Start(x, y.size, y.definite); e != api.OK || !base.Good(s) {
				t.Error(x, y, s, int(e))
			}
		}
	}
	starts(t, both(pct(100000)), api.MaxPx, true, api.Sizing{Min: api.SizeFixed, Max: api.SizeFixed, Base: api.MaxPx, Limit: api.MaxPx})
	starts(t, both(pct(200000)), api.MaxPx/2, true, api.Sizing{Min: api.SizeFixed, Max: api.SizeFixed, Base: api.MaxPx, Limit: api.MaxPx})
	fails(t, both(pct(200000)), api.MaxPx/2+1, true, api.ErrOver)
}

func TestStartWrong(t *testing.T) { // P22.1: ErrArg goes ahead of what a percentage comes to
	for _, x := range noTracks() {
		for _, size := range append(noSizes(), 0, 1000, api.MaxPx) {
			fails(t, x, size, true, api.ErrArg)
			fails(t, x, size, false, api.ErrArg)
		}
	}
	for _, size := range noSizes() {
		for _, a := range breadths() {
			fails(t, both(a.v), size, true, api.ErrArg)
		}
		for _, x := range append(overs(), fit(px(1)), fit(pct(1)), minmax(px(1), fr(1))) {
			fails(t, x, size, true, api.ErrArg)
		}
	}
}

// list is tracks of these sizes, with no gaps, none of them Gone.
func list(l ...api.Track) api.Tracks {
	return api.Tracks{List: l, Gone: make([]bool, len(l)), Ahead: make([]int, len(l))}
}

func TestAll(t *testing.T) { // P22.2
	x := list(both(px(5)), both(pct(50000)), minmax(kind(api.LenAuto), fr(1)), fit(pct(10000)), both(kind(api.LenMin)), both(px(0)))
	x.Low, x.Ahead[1], x.Ahead[5] = -2, 9, api.MaxPx
	for _, definite := range []bool{true, false} {
		all, e := base.All(x, 1000, definite)
		if e != api.OK || len(all) != len(x.List) {
			t.Fatal(all, int(e))
		}
		for i, size := range x.List {
			starts(t, size, 1000, definite, all[i])
		}
	}
	for _, none := range []api.Tracks{{}, list()} {
		for _, size := range append(noSizes(), 0, 1000) { // nothing is asked of a size where no track is
			for _, definite := range []bool{true, false} {
				if all, e := base.All(none, size, definite); len(all) != 0 || e != api.OK {
					t.Error(all, int(e))
				}
			}
		}
	}
}

func TestAllGone(t *testing.T) { // P22.2: whatever the track's size is
	nothing := api.Sizing{Min: api.SizeFixed, Max: api.SizeFixed}
	for _, size := range append(overs(), both(px(7)), both(pct(1)), both(kind(api.LenAuto)), minmax(px(1), fr(1)), fit(px(7)), fit(pct(7))) {
		x := list(both(px(1)), size, size, both(px(2)))
		x.Gone[1], x.Gone[2] = true, true
		for _, definite := range []bool{true, false} {
			all, e := base.All(x, api.MaxPx, definite)
			want := []api.Sizing{{Min: 1, Max: 1, Base: 1, Limit: 1}, nothing, nothing, {Min: 1, Max: 1, Base: 2, Limit: 2}}
			if e != api.OK || !slices.Equal(all, want) {
				t.Error(size, all, int(e))
			}
		}
	}
}

func allFails(t *testing.T, x api.Tracks, size int, definite bool, want api.Errno) {
	t.Helper()
	if all, e := base.All(x, size, definite); len(all) != 0 || e != want {
		t.Errorf("%.200v in %d, %v: %.200v, %d, not %d", x, size, definite, all, int(e), int(want))
	}
}

func TestAllErrors(t *testing.T) { // P22.2
	for _, over := range overs() {
		for i := range 3 {
			x := list(both(px(1)), both(px(1)), both(px(1)))
			x.List[i] = over
			allFails(t, x, api.MaxPx, true, api.ErrOver)
			if all, e := base.All(x, api.MaxPx, false); len(all) != 3 || e != api.OK {
				t.Error(all, int(e))
			}
		}
	}
	gone := list(both(px(1)))
	gone.Gone[0] = true
	for _, size := range noSizes() {
		for _, x := range []api.Tracks{list(both(px(1))), list(both(px(1)), both(pct(100001))), list(minmax(px(1), fr(1)), both(px(1))), gone} {
			allFails(t, x, size, true, api.ErrArg)
			if all, e := base.All(x, size, false); len(all) != len(x.List) || e != api.OK {
				t.Error(x, all, int(e))
			}
		}
	}
}

func TestAllWrong(t *testing.T) { // P22.2: tracks that are not Good, whatever stands in them
	for i, change := range []func(*api.Tracks){
		func(x *api.Tracks) { x.Low = 1 }, func(x *api.Tracks) { x.Low = -api.MaxLine - 1 }, func(x *api.Tracks) { x.Gone = nil }, func(x *api.Tracks) { x.Ahead = nil }, func(x *api.Tracks) { x.List = x.List[:1] }, func(x *api.Tracks) { x.Gone = x.Gone[:1] }, func(x *api.Tracks) { x.Ahead[0] = 1 }, func(x *api.Tracks) { x.Ahead[1] = -1 }, func(x *api.Tracks) { x.Ahead[1] = api.MaxPx + 1 }, func(x *api.Tracks) { x.Gone[1], x.Ahead[1] = true, 1 },
		func(x *api.Tracks) { x.List[0] = api.Track{} }, func(x *api.Tracks) { x.List[1] = both(px(-1)) }, func(x *api.Tracks) { x.List[1], x.Gone[1] = api.Track{}, true },
		func(x *api.Tracks) { *x = list(slices.Repeat([]api.Track{both(px(1))}, 4*api.MaxLine+1)...) },
	} {
		for _, first := range []api.Track{both(px(1)), both(pct(100001))} {
			x := list(first, both(px(1)))
			change(&x)
			if all, e := base.All(x, api.MaxPx, true); len(all) != 0 || e != api.ErrArg {
				t.Error(i, int(e))
			}
			if all, e := base.All(x, 0, false); len(all) != 0 || e != api.ErrArg {
				t.Error(i, int(e))
			}
		}
	}
	most := list(slices.Repeat([]api.Track{both(px(1))}, 4*api.MaxLine)...)
	if all, e := base.All(most, 0, true); len(all) != 4*api.MaxLine || e != api.OK {
		t.Error(len(all), int(e))
	}
}

func TestAllHandedIn(t *testing.T) { // rules 4 and 8
	x := list(both(px(5)), both(px(6)), both(px(7)))
	x.Gone[1] = true
	x.List, x.Gone, x.Ahead = x.List[:2], x.Gone[:2], x.Ahead[:2]
	if all, e := base.All(x, 0, false); len(all) != 2 || e != api.OK {
		t.Error(all, int(e))
	}
	if !slices.Equal(x.List[:3], []api.Track{both(px(5)), both(px(6)), both(px(7))}) || !slices.Equal(x.Gone[:3], []bool{false, true, false}) || !slices.Equal(x.Ahead[:3], []int{0, 0, 0}) {
		t.Error(x)
	}
}
