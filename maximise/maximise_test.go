package maximise_test

import (
	"math"
	"slices"
	"testing"

	"parterre/api"
	"parterre/maximise"
)

func TestTotal(t *testing.T) { // P25.1
	half := top / 2
	for _, x := range []struct {
		s     []api.Sizing
		ahead []int
		n     int
		e     api.Errno
	}{
		{nil, nil, 0, api.OK},
		{[]api.Sizing{}, nil, 0, api.OK},
		{nil, []int{}, 0, api.OK},
		{[]api.Sizing{px(1, 3)}, []int{0}, 1, api.OK},
		{[]api.Sizing{px(1, 3)}, []int{8}, 9, api.OK},
		{row(), []int{0, 10, 20, 0, 30, 40, 0}, 128, api.OK},
		{row(), make([]int, 7), 28, api.OK},
		{[]api.Sizing{px(0, 0), px(0, 0)}, []int{0, 0}, 0, api.OK},
		{[]api.Sizing{px(top, inf)}, []int{0}, top, api.OK},
		{[]api.Sizing{px(0, inf)}, []int{top}, top, api.OK},
		{[]api.Sizing{px(half, inf), px(half, inf)}, []int{0, 0}, top, api.OK},
		{[]api.Sizing{px(half, inf), px(half-1, inf)}, []int{1, 0}, top, api.OK},
		{[]api.Sizing{px(half, inf), px(half-1, inf)}, []int{0, 1}, top, api.OK},
		{[]api.Sizing{px(half, inf), px(half, inf)}, []int{0, 1}, 0, api.ErrOver},
		{[]api.Sizing{px(half, inf), px(half, inf)}, []int{1, 0}, 0, api.ErrOver},
		{[]api.Sizing{px(half, inf), px(half+1, inf)}, []int{0, 0}, 0, api.ErrOver},
		{[]api.Sizing{px(0, 0), px(0, 0)}, []int{top, 1}, 0, api.ErrOver},
		{[]api.Sizing{px(0, 0), px(0, 0)}, []int{top, top}, 0, api.ErrOver},
		{[]api.Sizing{px(top+1, inf)}, []int{0}, 0, api.ErrOver},
		{[]api.Sizing{px(inf-1, inf)}, []int{top}, 0, api.ErrOver},
		{[]api.Sizing{px(0, 0), px(inf-1, inf)}, []int{0, 0}, 0, api.ErrOver},
		{[]api.Sizing{px(inf-1, inf), px(0, 0)}, []int{0, 0}, 0, api.ErrOver},
		{slices.Repeat([]api.Sizing{px(inf-1, inf)}, many), make([]int, many), 0, api.ErrOver},
		{slices.Repeat([]api.Sizing{px(1, 2)}, many+9), make([]int, many+9), many + 9, api.OK},
	} {
		if n, e := maximise.Total(x.s, x.ahead); n != x.n || e != x.e {
			t.Errorf("%v, %v: %d, %d, not %d, %d", first(x.s), first(x.ahead), n, int(e), x.n, int(x.e))
		}
	}
}

func TestTotalWrong(t *testing.T) { // P25.1: ErrArg goes ahead of ErrOver
	fails := func(s []api.Sizing, ahead []int) {
		t.Helper()
		if n, e := maximise.Total(s, ahead); n != 0 || e != api.ErrArg {
			t.Errorf("%v, %v: %d, %d", s, ahead, n, int(e))
		}
	}
	over, good := px(top+1, inf), px(1, 1)
	for _, first := range []api.Sizing{good, over} {
		for _, wrong := range wrongs() {
			fails([]api.Sizing{first, wrong}, []int{0, 0})
			fails([]api.Sizing{wrong, first}, []int{0, 0})
			fails([]api.Sizing{wrong}, []int{0})
		}
		for _, n := range noSizes() {
			fails([]api.Sizing{first, good}, []int{0, n})
			fails([]api.Sizing{first, good}, []int{n, 0})
			fails([]api.Sizing{first, good}, []int{top, n})
		}
		for _, ahead := range [][]int{nil, {}, {0}, {0, 0, 0}} {
			fails([]api.Sizing{first, good}, ahead)
		}
	}
	fails(nil, []int{0})
	fails([]api.Sizing{}, []int{5, 5})
}

func TestGrow(t *testing.T) { // P25.2
	r := row()
	for _, x := range []struct {
		s           []api.Sizing
		free        int
		base, limit []int
	}{
		{[]api.Sizing{px(1, 3), px(2, 10)}, 5, []int{3, 5}, []int{3, 10}},
		{[]api.Sizing{px(1, 3), px(2, 10)}, 0, []int{1, 2}, []int{3, 10}},
		{[]api.Sizing{px(1, 3), px(2, 10)}, 1, []int{2, 2}, []int{3, 10}},
		{[]api.Sizing{px(1, 3), px(2, 10)}, 3, []int{3, 3}, []int{3, 10}},
		{[]api.Sizing{px(2, 10), px(1, 3)}, 5, []int{5, 3}, []int{10, 3}},
		{[]api.Sizing{px(1, 3), px(2, 10)}, 9, []int{3, 9}, []int{3, 10}},
		{[]api.Sizing{px(1, 3), px(2, 10)}, 10, []int{3, 10}, []int{3, 10}},
		{[]api.Sizing{px(1, 3), px(2, 10)}, 11, []int{3, 10}, []int{3, 10}},
		{[]api.Sizing{px(1, 3), px(2, 10)}, top, []int{3, 10}, []int{3, 10}},
		{[]api.Sizing{px(7, inf), px(2, 2), px(0, inf)}, 5, []int{10, 2, 2}, []int{inf, 2, inf}},
		{[]api.Sizing{px(7, inf)}, top, []int{top + 7}, []int{inf}},
		{[]api.Sizing{px(inf-1, inf)}, top, []int{inf}, []int{inf}},
		{r, 1, []int{2, 2, 3, 4, 5, 6, 7}, []int{3, 9, inf, 4, 6, inf, inf}},
		{r, 12, []int{3, 5, 5, 4, 6, 8, 9}, []int{3, 9, inf, 4, 6, inf, inf}},
		{r, top, []int{3, 9, 3 + (top-10)/3, 4, 6, 6 + (top-10)/3, 7 + (top-10)/3}, []int{3, 9, inf, 4, 6, inf, inf}},
		{nil, 5, nil, nil},
	} {
		want := make([]api.Sizing, len(x.s))
		for i, s := range x.s {
			want[i] = to(s, x.base[i], x.limit[i])
		}
		hold(t, maximise.Grow(x.s, x.free), want)
	}
}

func TestFull(t *testing.T) { // P25.2
	want := row()
	want[0].Base, want[1].Base, want[4].Base = 3, 9, 6
	hold(t, maximise.Full(row()), want)
	hold(t, maximise.Full(nil), nil)
	hold(t, maximise.Full([]api.Sizing{px(1, inf-1), px(1, inf), px(inf-1, inf-1), px(inf-1, inf), px(0, 0)}), []api.Sizing{px(inf-1, inf-1), px(1, inf), px(inf-1, inf-1), px(inf-1, inf), px(0, 0)})
	hold(t, maximise.Full(slices.Repeat([]api.Sizing{px(1, 5)}, many+1)), slices.Repeat([]api.Sizing{px(5, 5)}, many+1))
}

func TestStretch(t *testing.T) { // P25.3
	r := row()
	for _, x := range []struct {
		s           []api.Sizing
		free        int
		base, limit []int
	}{
		{r, 0, []int{1, 2, 3, 4, 5, 6, 7}, []int{3, 9, inf, 4, 6, inf, inf}},
		{r, 1, []int{1, 3, 3, 4, 5, 6, 7}, []int{3, 9, inf, 4, 6, inf, inf}},
		{r, 2, []int{1, 3, 3, 5, 5, 6, 7}, []int{3, 9, inf, 5, 6, inf, inf}},
		{r, 21, []int{1, 9, 3, 11, 5, 6, 14}, []int{3, 9, inf, 11, 6, inf, inf}},
		{r, 22, []int{1, 10, 3, 11, 5, 6, 14}, []int{3, 10, inf, 11, 6, inf, inf}},
		{r, 23, []int{1, 10, 3, 12, 5, 6, 14}, []int{3, 10, inf, 12, 6, inf, inf}},
		{[]api.Sizing{of(auto, auto, 4, 4)}, 7, []int{11}, []int{11}},
		{[]api.Sizing{of(auto, auto, 4, 4)}, top, []int{top + 4}, []int{top + 4}},
		{[]api.Sizing{of(fix, auto, inf-1, inf)}, top, []int{inf - 1 + top}, []int{inf - 1 + top}},
		{[]api.Sizing{px(1, 2), of(auto, cmax, 4, 5), of(auto, cmin, 4, 5), fit(3, 4), flex(1, 2, 3)}, 50, []int{1, 4, 4, 4, 2}, []int{2, 5, 5, inf, 3}},
		{nil, 5, nil, nil},
	} {
		want := make([]api.Sizing, len(x.s))
		for i, s := range x.s {
			want[i] = to(s, x.base[i], x.limit[i])
		}
		hold(t, maximise.Stretch(x.s, x.free), want)
	}
}

func TestAsItIs(t *testing.T) { // P25.2, P25.3: tracks that are not all Good, room that is none
	for _, wrong := range wrongs() {
		for _, s := range [][]api.Sizing{{wrong}, append(row(), wrong), append([]api.Sizing{wrong}, row()...)} {
			for _, free := range append(noSizes(), 0, 1, 50, top) {
				hold(t, maximise.Grow(s, free), s)
				hold(t, maximise.Stretch(s, free), s)
			}
			hold(t, maximise.Full(s), s)
		}
	}
	for _, free := range noSizes() {
		for _, s := range [][]api.Sizing{nil, row()} {
			hold(t, maximise.Grow(s, free), s)
			hold(t, maximise.Stretch(s, free), s)
		}
	}
}

func TestMany(t *testing.T) { // P25.2, P25.3: as many tracks as spread and fixed take, and one more
	s := slices.Repeat([]api.Sizing{of(auto, auto, 1, 9)}, many+1)
	for _, f := range []func([]api.Sizing, int) []api.Sizing{maximise.Grow, maximise.Stretch} {
		got := f(s[:many], many+3)
		if len(got) != many || got[2].Base != 3 || got[3].Base != 2 || got[many-1].Base != 2 {
			t.Error(len(got), first(got))
		}
		hold(t, f(s, many+3), s)
	}
	s[many] = px(1, 1)
	if got := maximise.Stretch(s, many+3); got[2].Base != 3 || got[many-1].Base != 2 || got[many] != s[many] {
		t.Error(len(got), first(got))
	}
}

func TestHandedIn(t *testing.T) { // rules 4 and 8; an answer is new memory
	s, ahead := row(), []int{0, 1, 2, 3, 4, 5, 6}
	wrong := append(row(), api.Sizing{})
	for _, got := range [][]api.Sizing{maximise.Grow(s[:5], 9), maximise.Grow(s[:5], -1), maximise.Full(s[:5]), maximise.Stretch(s[:5], 9), maximise.Stretch(s[:5], math.MaxInt), maximise.Grow(s[:5], 0), maximise.Grow(wrong, 9), maximise.Full(wrong), maximise.Stretch(wrong, 9)} {
		got[0].Base = -7
		got = append(got[:5], api.Sizing{Min: 77})
		if len(got) != 6 {
			t.Fatal(got)
		}
	}
	if n, e := maximise.Total(s[:5], ahead[:5]); n != 25 || e != api.OK {
		t.Error(n, int(e))
	}
	hold(t, s, row())
	hold(t, wrong, append(row(), api.Sizing{}))
	if !slices.Equal(ahead, []int{0, 1, 2, 3, 4, 5, 6}) {
		t.Error(ahead)
	}
}
