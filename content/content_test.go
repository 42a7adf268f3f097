package content_test

import (
	"math"
	"slices"
	"testing"

	"parterre/api"
	"parterre/content"
)

const (
	normal  = api.AlignNormal
	start   = api.AlignStart
	end     = api.AlignEnd
	center  = api.AlignCenter
	stretch = api.AlignStretch
	between = api.AlignBetween
	around  = api.AlignAround
	evenly  = api.AlignEvenly
)

func alike() []int { return []int{10, 10, 10} }

func TestStarts(t *testing.T) { // P28.1: with free room, without, with less than none
	x := row(0, 3)
	for align, want := range map[int][]int{normal: {0, 10, 20}, start: {0, 10, 20}, stretch: {0, 10, 20}, end: {30, 40, 50}, center: {15, 25, 35}, between: {0, 25, 50}, around: {5, 25, 45}, evenly: {7, 25, 42}} {
		starts(t, x, alike(), 60, align, want...)
		starts(t, x, alike(), 30, align, 0, 10, 20)
	}
	for align, want := range map[int][]int{normal: {0, 10, 20}, start: {0, 10, 20}, stretch: {0, 10, 20}, end: {1, 11, 21}, center: {0, 10, 20}, between: {0, 10, 21}, around: {0, 10, 20}, evenly: {0, 10, 20}} {
		starts(t, x, alike(), 31, align, want...)
	}
	for align, want := range map[int][]int{normal: {0, 10, 20}, start: {0, 10, 20}, stretch: {0, 10, 20}, end: {-5, 5, 15}, center: {-3, 7, 17}, between: {0, 10, 20}, around: {0, 10, 20}, evenly: {0, 10, 20}} {
		starts(t, x, alike(), 25, align, want...)
	}
	for align, want := range map[int][]int{start: {0, 10, 20}, end: {-1, 9, 19}, center: {-1, 9, 19}, between: {0, 10, 20}, around: {0, 10, 20}, evenly: {0, 10, 20}} {
		starts(t, x, alike(), 29, align, want...)
	}
	for align, want := range map[int][]int{start: {0, 14, 28}, end: {22, 36, 50}, center: {11, 25, 39}, between: {0, 25, 50}, around: {3, 25, 46}, evenly: {5, 25, 44}} {
		starts(t, row(4, 3), alike(), 60, align, want...)
	}
}

func TestUnlike(t *testing.T) { // P28.1: sizes and gaps that are unlike, a grid that begins ahead of the explicit one
	x := from(-2, row(3, 4))
	for align, want := range map[int][]int{start: {0, 4, 12, 15}, end: {74, 78, 86, 89}, center: {37, 41, 49, 52}, between: {0, 28, 61, 89}, around: {9, 31, 58, 79}, evenly: {14, 33, 56, 74}} {
		starts(t, x, []int{1, 5, 0, 11}, 100, align, want...)
	}
}

func TestFew(t *testing.T) { // P28.1: one track, and none
	for align, want := range map[int]int{normal: 0, start: 0, stretch: 0, end: 21, center: 10, between: 0, around: 10, evenly: 10} {
		starts(t, row(0, 1), []int{10}, 31, align, want)
		starts(t, row(0, 0), nil, 31, align)
		starts(t, row(0, 0), []int{}, 0, align)
	}
}

func TestGone(t *testing.T) { // P28.1: tracks that are gone are not counted
	one := without(row(0, 3), 1)
	for align, want := range map[int][]int{start: {0, 10, 10}, end: {40, 50, 50}, center: {20, 30, 30}, between: {0, 10, 50}, around: {10, 20, 40}, evenly: {13, 23, 36}} {
		starts(t, one, []int{10, 0, 10}, 60, align, want...)
	}
	ahead := without(row(2, 6), 0, 1, 3, 5)
	ahead.Ahead[2] = 0
	for align, want := range map[int][]int{start: {0, 0, 0, 10, 12, 22}, end: {38, 38, 38, 48, 50, 60}, between: {0, 0, 0, 10, 50, 60}, around: {9, 9, 9, 19, 40, 50}, evenly: {12, 12, 12, 22, 37, 47}} {
		starts(t, ahead, []int{0, 0, 10, 0, 10, 0}, 60, align, want...)
	}
	alone := without(row(0, 3), 0, 2)
	for align, want := range map[int][]int{start: {0, 0, 10}, end: {50, 50, 60}, center: {25, 25, 35}, between: {0, 0, 10}, around: {25, 25, 35}, evenly: {25, 25, 35}} {
		starts(t, alone, []int{0, 10, 0}, 60, align, want...)
	}
	none := without(row(0, 2), 0, 1)
	for align, want := range map[int][]int{start: {0, 0}, end: {60, 60}, center: {30, 30}, between: {0, 0}, around: {0, 0}, evenly: {0, 0}} {
		starts(t, none, []int{0, 0}, 60, align, want...)
	}
	starts(t, one, []int{10, 7, 10}, 60, between, 0, 10, 50) // whatever a track has that is gone
}

func TestGreatest(t *testing.T) { // P28.1: the greatest sizes, as many tracks as there may be
	for align, want := range map[int][]int{start: {0, 0}, end: {top, top}, center: {top / 2, top / 2}, between: {0, top}, around: {top / 4, top / 4 * 3}, evenly: {top / 3, top / 3 * 2}} {
		if align == evenly {
			want[1] = top * 2 / 3
		}
		starts(t, row(0, 2), []int{0, 0}, top, align, want...)
	}
	starts(t, row(0, 2), []int{top, 0}, 0, end, -top, 0)
	starts(t, row(0, 2), []int{top - 1, 0}, 0, center, -top/2, top/2-1)
	sizes := make([]int, most)
	for _, align := range []int{normal, start, end, center, stretch, between, around, evenly} {
		l, e := content.Starts(row(0, most), sizes, top, align)
		if e != api.OK || len(l) != most || l[0] < 0 || l[most-1] > top || !slices.IsSorted(l) {
			t.Error(align, first(l), int(e))
		}
	}
	startsFails(t, row(0, most+1), make([]int, most+1), top, start, api.ErrArg)
}

func TestStartsWrong(t *testing.T) { // P28.1: ErrArg goes ahead of ErrOver
	for _, n := range []int{1, top} {
		sizes := []int{n, n, n}
		for _, x := range wrongs() {
			startsFails(t, x, sizes, 60, start, api.ErrArg)
		}
		x := row(3, 3)
		for _, wrong := range [][]int{nil, {}, {n, n}, {n, n, n, n}, {n, n, -1}, {-1, n, n}, {n, top + 1, n}, {n, n, math.MinInt}} {
			startsFails(t, x, wrong, 60, start, api.ErrArg)
		}
		for _, wrong := range noSizes() {
			startsFails(t, x, sizes, wrong, start, api.ErrArg)
		}
		for _, wrong := range []int{math.MinInt, -1, 0, api.AlignAuto, api.AlignEvenly + 1, math.MaxInt} {
			startsFails(t, x, sizes, 60, wrong, api.ErrArg)
		}
	}
	for align := normal; align <= evenly; align++ {
		startsFails(t, row(3, 3), []int{top, 0, 0}, 60, align, api.ErrOver)
		startsFails(t, row(1, 3), []int{top - 1, 0, 0}, top, align, api.ErrOver)
		startsFails(t, row(0, 3), []int{top, top, top}, 0, align, api.ErrOver)
	}
	starts(t, row(1, 3), []int{top - 2, 0, 0}, 0, start, 0, top-1, top)
}

func TestArea(t *testing.T) { // P28.2
	x, begins := row(5, 3), []int{0, 15, 30}
	for _, w := range [][4]int{{0, 1, 0, 10}, {1, 2, 15, 10}, {2, 3, 30, 10}, {0, 2, 0, 25}, {1, 3, 15, 25}, {0, 3, 0, 40}} {
		area(t, x, begins, alike(), w[0], w[1], w[2], w[3], api.OK)
		area(t, from(-1, x), begins, alike(), w[0]-1, w[1]-1, w[2], w[3], api.OK)
		area(t, from(-api.MaxLine, x), begins, alike(), w[0]-api.MaxLine, w[1]-api.MaxLine, w[2], w[3], api.OK)
	}
	area(t, x, []int{-9, 7, 30}, []int{1, 2, 4}, 0, 2, -9, 18, api.OK)
	area(t, without(x, 1), []int{3, 13, 18}, []int{10, 0, 10}, 1, 2, 13, 0, api.OK)
	area(t, without(x, 1), []int{3, 13, 18}, []int{10, 0, 10}, 0, 2, 3, 10, api.OK)
	area(t, x, []int{0, 15, 7}, alike(), 0, 3, 0, 17, api.OK)     // where the last one begins counts, not who is in between
	area(t, x, []int{50, 15, 30}, alike(), 0, 2, 50, -25, api.OK) // less than nothing is a length, too
}

func TestAreaWrong(t *testing.T) { // P28.2: ErrArg goes ahead of ErrOver
	begins := []int{0, 15, 30}
	for _, where := range [][]int{begins, {0, 15, math.MaxInt}} {
		for _, x := range wrongs() {
			area(t, x, where, alike(), x.Low, x.Low+3, 0, 0, api.ErrArg)
		}
		x := row(5, 3)
		for _, sizes := range [][]int{nil, {10, 10}, {10, 10, 10, 10}, {10, 10, -1}, {top + 1, 10, 10}} {
			area(t, x, where, sizes, 0, 3, 0, 0, api.ErrArg)
			area(t, x, where, sizes, 0, 1, 0, 0, api.ErrArg)
		}
		area(t, x, append(slices.Clone(where), 45), alike(), 0, 3, 0, 0, api.ErrArg)
		for _, w := range [][2]int{{0, 0}, {1, 1}, {3, 3}, {2, 1}, {3, 0}, {-1, 1}, {-1, 0}, {0, 4}, {2, 4}, {3, 4}, {math.MinInt, 3}, {0, math.MaxInt}, {math.MinInt, math.MaxInt}, {math.MaxInt, math.MinInt}, {math.MinInt, math.MinInt + 1}, {math.MaxInt - 1, math.MaxInt}, {math.MaxInt, math.MaxInt}} {
			area(t, x, where, alike(), w[0], w[1], 0, 0, api.ErrArg)
			low := from(-2, x)
			if w[0] > math.MinInt+2 && w[1] > math.MinInt+2 {
				area(t, low, where, alike(), w[0]-2, w[1]-2, 0, 0, api.ErrArg)
			}
		}
		area(t, x, where[:2], alike(), 0, 1, 0, 0, api.ErrArg)
		area(t, x, nil, alike(), 0, 1, 0, 0, api.ErrArg)
	}
	area(t, from(-2, row(0, 3)), begins, alike(), 0, 2, 0, 0, api.ErrArg)
	area(t, row(0, 0), nil, nil, 0, 1, 0, 0, api.ErrArg)
	area(t, row(0, 0), nil, nil, 0, 0, 0, 0, api.ErrArg)
}

func TestAreaOver(t *testing.T) { // P28.2: of where tracks begin nothing is asked
	x := row(0, 3)
	for _, w := range []struct {
		starts, sizes []int
		at, size      int
		e             api.Errno
	}{
		{[]int{0, 1, top}, []int{0, 0, 0}, 0, top, api.OK},
		{[]int{0, 1, top - 9}, []int{0, 0, 9}, 0, top, api.OK},
		{[]int{0, 1, top}, []int{0, 0, 1}, 0, 0, api.ErrOver},
		{[]int{-1, 1, top}, []int{0, 0, 0}, 0, 0, api.ErrOver},
		{[]int{-1, 1, top - 9}, []int{0, 0, 9}, 0, 0, api.ErrOver},
		{[]int{top, 1, 0}, []int{0, 0, 0}, top, -top, api.OK},
		{[]int{top + 1, 1, 0}, []int{0, 0, 0}, 0, 0, api.ErrOver},
		{[]int{top + 1, 1, 0}, []int{0, 0, 1}, top + 1, -top, api.OK},
		{[]int{top * 2, 1, 0}, []int{0, 0, top}, top * 2, -top, api.OK},
		{[]int{top*2 + 1, 1, 0}, []int{0, 0, top}, 0, 0, api.ErrOver},
		{[]int{math.MaxInt - 5, 1, math.MaxInt}, []int{0, 0, 7}, math.MaxInt - 5, 12, api.OK},
		{[]int{math.MinInt, 1, math.MinInt + 5}, []int{0, 0, 7}, math.MinInt, 12, api.OK},
		{[]int{math.MinInt, 1, math.MaxInt}, []int{0, 0, 7}, 0, 0, api.ErrOver},
		{[]int{math.MinInt, 1, math.MaxInt}, []int{0, 0, 0}, 0, 0, api.ErrOver},
		{[]int{math.MaxInt, 1, math.MinInt}, []int{0, 0, 7}, 0, 0, api.ErrOver},
		{[]int{math.MaxInt, 1, math.MinInt}, []int{0, 0, top}, 0, 0, api.ErrOver},
		{[]int{math.MinInt, 1, 0}, []int{0, 0, 0}, 0, 0, api.ErrOver},
		{[]int{0, 1, math.MinInt}, []int{0, 0, 0}, 0, 0, api.ErrOver},
		{[]int{0, 1, math.MaxInt}, []int{0, 0, top}, 0, 0, api.ErrOver},
		{[]int{0, 1, 2}, []int{top, top, 5}, 0, 7, api.OK}, // all sizes together are no length: that is not asked
	} {
		area(t, x, w.starts, w.sizes, 0, 3, w.at, w.size, w.e)
	}
	area(t, x, []int{math.MaxInt, 5, math.MinInt}, alike(), 1, 2, 5, 10, api.OK)
	area(t, x, []int{math.MaxInt, 5, math.MinInt}, alike(), 2, 3, math.MinInt, 10, api.OK)
	area(t, x, []int{math.MaxInt, 5, math.MinInt}, alike(), 0, 1, math.MaxInt, 10, api.OK)
}

func TestHandedIn(t *testing.T) { // rules 4 and 8; an answer is new memory
	x, sizes, begins := row(5, 3), []int{10, 10, 10, 99}, []int{0, 15, 30, 99}
	list, gone, ahead := slices.Clone(x.List), slices.Clone(x.Gone), slices.Clone(x.Ahead)
	l, e := content.Starts(x, sizes[:3], 60, between)
	l[0], l[1], l[2] = -7, -7, -7
	again, _ := content.Starts(x, sizes[:3], 60, between)
	if e != api.OK || !slices.Equal(again, []int{0, 25, 50}) {
		t.Error(again, int(e))
	}
	area(t, x, begins[:3], sizes[:3], 1, 3, 15, 25, api.OK)
	if !slices.Equal(list, x.List) || !slices.Equal(gone, x.Gone) || !slices.Equal(ahead, x.Ahead) || !slices.Equal(sizes, []int{10, 10, 10, 99}) || !slices.Equal(begins, []int{0, 15, 30, 99}) {
		t.Error(x, sizes, begins)
	}
}
