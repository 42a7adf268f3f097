package intrinsic_test

import (
	"math"
	"slices"
	"testing"

	"parterre/api"
	"parterre/intrinsic"
)

// handed is all that Size is handed.
type handed struct {
	s     []api.Sizing
	ahead []int
	wants []api.Want
	mode  int
}

func (h handed) good() bool { return intrinsic.Good(h.s, h.ahead, h.wants, h.mode) }

func good() handed {
	return handed{
		[]api.Sizing{of(auto, auto), px(3, 4), fit(5), flex(cmin, 2)},
		[]int{0, 1, top, 0},
		[]api.Want{want(0, 1, 1, 2, 3), want(0, 4, 0, 0, 0), want(2, 4, top, top, top), want(3, 4, 9, 8, 7)},
		plain,
	}
}

func TestGood(t *testing.T) { // P24.2
	for i, change := range []func(h *handed){
		func(h *handed) {},
		func(h *handed) { h.mode = least },
		func(h *handed) { h.mode = most },
		func(h *handed) { h.wants = nil },
		func(h *handed) { *h = handed{} },
		func(h *handed) { *h = handed{s: []api.Sizing{}, ahead: []int{}, wants: []api.Want{}, mode: most} },
		func(h *handed) { h.ahead[0] = top },
		func(h *handed) { h.s[0] = at(h.s[0], inf-1, inf) },
		func(h *handed) { h.wants = slices.Repeat(h.wants, api.MaxNodes/4) },
		func(h *handed) { h.s, h.ahead = slices.Repeat(h.s, 50000), slices.Repeat(h.ahead, 50000) },
	} {
		h := good()
		change(&h)
		l, e := intrinsic.Size(h.s, h.ahead, h.wants, h.mode)
		if !h.good() || e != api.OK || len(l) != len(h.s) {
			t.Error(i, int(e))
		}
	}
}

// wrongs are changes after which nothing is Good.
func wrongs() []func(h *handed) {
	l := []func(h *handed){
		func(h *handed) { h.ahead = nil }, func(h *handed) { h.ahead = h.ahead[:3] }, func(h *handed) { h.ahead = append(h.ahead, 0) },
		func(h *handed) { h.s = nil }, func(h *handed) { h.s, h.ahead = nil, nil }, func(h *handed) { h.s = h.s[:3] }, func(h *handed) { h.s, h.ahead = h.s[:3], h.ahead[:3] },
		func(h *handed) { h.s[0] = api.Sizing{} }, func(h *handed) { h.s[3].Min = fr }, func(h *handed) { h.s[1].Limit = 2 }, func(h *handed) { h.s[2].Cap = -1 }, func(h *handed) { h.s[0].Fr = 1 }, func(h *handed) { h.s[0].Base = inf },
		func(h *handed) { h.wants[0].To = 0 }, func(h *handed) { h.wants[0].From = 1 }, func(h *handed) { h.wants[0].From = -1 }, func(h *handed) { h.wants[3].To = 5 }, func(h *handed) { h.wants[3].From = 4 }, func(h *handed) { h.wants[3].From, h.wants[3].To = 4, 5 },
		func(h *handed) { h.wants[1].From, h.wants[1].To = 4, 0 }, func(h *handed) { h.wants[2].From = math.MinInt }, func(h *handed) { h.wants[2].To = math.MaxInt }, func(h *handed) { h.wants[2].From = math.MaxInt }, func(h *handed) { h.wants[2].To = math.MinInt },
		func(h *handed) { h.wants = append(slices.Repeat(h.wants, api.MaxNodes/4), h.wants[0]) },
	}
	for _, n := range noSizes() {
		l = append(l, func(h *handed) { h.ahead[0] = n }, func(h *handed) { h.ahead[3] = n }, func(h *handed) { h.wants[0].Least = n }, func(h *handed) { h.wants[3].Least = n }, func(h *handed) { h.wants[1].Min = n }, func(h *handed) { h.wants[2].Max = n })
	}
	for _, n := range []int{math.MinInt, -1, 3, math.MaxInt} {
		l = append(l, func(h *handed) { h.mode = n })
	}
	return l
}

func TestGoodNot(t *testing.T) { // P24.1, P24.2
	for i, change := range wrongs() {
		h := good()
		change(&h)
		if h.good() {
			t.Error(i)
		}
		if l, e := intrinsic.Size(h.s, h.ahead, h.wants, h.mode); len(l) != 0 || e != api.ErrArg {
			t.Error(i, l, int(e))
		}
	}
	if intrinsic.Good(nil, nil, nil, 3) || intrinsic.Good(nil, []int{0}, nil, plain) || intrinsic.Good(nil, nil, []api.Want{{To: 1}}, plain) || intrinsic.Good(nil, nil, []api.Want{{}}, plain) {
		t.Error("nothing")
	}
}

func TestLimited(t *testing.T) { // P24.2
	for _, x := range []struct {
		s        []api.Sizing
		ahead    []int
		w        api.Want
		n, limit int
	}{
		{[]api.Sizing{px(1, 30), fit(50)}, []int{0, 5}, want(0, 2, 10, 0, 0), 200, 85},
		{[]api.Sizing{px(1, 30), fit(50)}, []int{9, 5}, want(0, 2, 10, 0, 0), 85, 85},
		{[]api.Sizing{px(1, 30), fit(50)}, []int{9, 5}, want(0, 2, 10, 0, 0), 86, 85},
		{[]api.Sizing{px(1, 30), fit(50)}, []int{9, 5}, want(0, 2, 10, 0, 0), 84, 84},
		{[]api.Sizing{px(1, 30), fit(50)}, []int{9, 5}, want(0, 2, 10, 0, 0), 9, 10},
		{[]api.Sizing{px(1, 30), fit(50)}, []int{9, 5}, want(0, 2, 90, 0, 0), 200, 90},
		{[]api.Sizing{px(1, 30), fit(50)}, []int{9, 5}, want(0, 1, 10, 0, 0), 200, 30},
		{[]api.Sizing{px(1, 30), fit(50)}, []int{9, 5}, want(1, 2, 10, 0, 0), 200, 50},
		{[]api.Sizing{px(1, 30), at(fit(50), 60, 70)}, []int{9, 5}, want(0, 2, 10, 0, 0), 200, 95},
		{[]api.Sizing{px(1, 30), at(fit(50), 20, 25)}, []int{9, 5}, want(0, 2, 10, 0, 0), 200, 85},
		{[]api.Sizing{upTo(cmax, 30), upTo(auto, 7), upTo(cmin, 8)}, []int{9, 5, 6}, want(0, 3, 10, 0, 0), 200, 56},
		{[]api.Sizing{px(1, 30), of(auto, auto)}, []int{0, 5}, want(0, 2, 10, 0, 0), 200, 200},
		{[]api.Sizing{px(1, 30), of(auto, auto)}, []int{0, 5}, want(0, 2, 10, 0, 0), 9, 10},
		{[]api.Sizing{px(1, 30), of(auto, auto)}, []int{0, 5}, want(0, 1, 10, 0, 0), 200, 30},
		{[]api.Sizing{of(auto, cmin), px(1, 30)}, []int{0, 5}, want(0, 2, 10, 0, 0), 200, 200},
		{[]api.Sizing{of(auto, cmax), px(1, 30)}, []int{0, 5}, want(0, 2, 10, 0, 0), 200, 200},
		{[]api.Sizing{flex(auto, 1), px(1, 30)}, []int{0, 5}, want(0, 2, 10, 0, 0), 200, 200},
		{[]api.Sizing{at(flex(auto, 1), 1, 2)}, []int{0}, want(0, 1, 0, 0, 0), 200, 200},
		{[]api.Sizing{at(of(auto, auto), 1, 2)}, []int{0}, want(0, 1, 0, 0, 0), 200, 200},
		{[]api.Sizing{px(0, 0)}, []int{0}, want(0, 1, 0, 0, 0), -5, 0},
		{[]api.Sizing{px(0, 0)}, []int{0}, want(0, 1, 3, 0, 0), math.MinInt, 3},
		{[]api.Sizing{px(0, 0)}, []int{0}, want(0, 1, 0, 0, 0), math.MaxInt, 0},
		{[]api.Sizing{of(auto, auto)}, []int{0}, want(0, 1, 0, 0, 0), math.MaxInt, math.MaxInt},
		{[]api.Sizing{px(0, inf)}, []int{0}, want(0, 1, 0, 0, 0), math.MaxInt, inf},
		{[]api.Sizing{px(0, inf), px(0, inf)}, []int{0, top}, want(0, 2, top, 0, 0), math.MaxInt, 2*inf + top},
		{[]api.Sizing{px(0, 5)}, []int{top}, want(0, 1, top, 0, 0), 6, top},
		{slices.Repeat([]api.Sizing{px(0, inf)}, 8191), make([]int, 8191), want(0, 8191, 0, 0, 0), math.MaxInt, 8191 * inf},
		{slices.Repeat([]api.Sizing{px(0, inf)}, 8192), make([]int, 8192), want(0, 8192, 0, 0, 0), math.MaxInt, math.MaxInt},
		{slices.Repeat([]api.Sizing{px(0, inf)}, 40000), make([]int, 40000), want(0, 40000, 0, 0, 0), math.MaxInt - 1, math.MaxInt - 1},
		{slices.Repeat([]api.Sizing{px(0, inf)}, 40000), make([]int, 40000), want(0, 40000, 0, 0, 0), 7, 7},
	} {
		if n := intrinsic.Limited(x.s, x.ahead, x.w, x.n); n != x.limit {
			t.Errorf("%.200v, %.200v, %v, %d: %d, not %d", x.s, x.ahead, x.w, x.n, n, x.limit)
		}
	}
}

func TestLimitedNot(t *testing.T) { // P24.2: of what is not Good with the want alone; modes and other wants are none of it
	for i, change := range wrongs() {
		h := good()
		change(&h)
		for _, w := range h.wants[:min(len(h.wants), 4)] {
			n := intrinsic.Limited(h.s, h.ahead, w, 7)
			if is := intrinsic.Good(h.s, h.ahead, []api.Want{w}, plain); !is && n != 0 || is && n < w.Least {
				t.Error(i, w, n)
			}
		}
	}
	if n := intrinsic.Limited(nil, nil, api.Want{Least: 5}, 9); n != 0 {
		t.Error(n)
	}
}
