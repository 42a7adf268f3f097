package intrinsic_test

import (
	"slices"
	"testing"

	"parterre/api"
	"parterre/intrinsic"
)

const (
	plain = intrinsic.Plain
	least = intrinsic.MinContent
	most  = intrinsic.MaxContent
)

func TestModes(t *testing.T) {
	if plain != 0 || least != 1 || most != 2 {
		t.Error(plain, least, most)
	}
}

func TestExample(t *testing.T) {
	hold(t, []api.Sizing{of(auto, auto), of(auto, auto)}, gaps(2, 0), []api.Want{want(0, 2, 10, 10, 20)}, plain, []int{5, 5}, []int{10, 10})
}

func TestOneTrack(t *testing.T) { // P24.1, step 1: the greatest of two wants
	wants := []api.Want{want(0, 1, 10, 20, 40), want(0, 1, 12, 15, 90)}
	for _, x := range []struct {
		track             api.Sizing
		mode, base, limit int
	}{
		{of(auto, auto), plain, 12, 90}, {of(auto, auto), least, 20, 90}, {of(auto, auto), most, 20, 90},
		{of(auto, cmin), plain, 12, 20}, {of(auto, cmin), least, 20, 20}, {of(auto, cmax), plain, 12, 90}, {of(auto, cmax), most, 20, 90},
		{of(cmin, auto), plain, 20, 90}, {of(cmin, cmin), plain, 20, 20}, {of(cmin, cmin), most, 20, 20}, {of(cmin, cmax), plain, 20, 90}, {of(cmin, cmax), least, 20, 90},
		{of(cmax, auto), plain, 90, 90}, {of(cmax, cmin), plain, 90, 90}, {of(cmax, cmax), plain, 90, 90}, {of(cmax, cmax), least, 90, 90}, {of(cmax, cmax), most, 90, 90},
		{from(5, auto), plain, 5, 90}, {from(5, cmin), least, 5, 20}, {from(95, cmin), most, 95, 95}, {from(5, cmax), plain, 5, 90}, {from(30, cmin), plain, 30, 30},
		{px(7, 9), plain, 7, 9}, {px(7, 9), most, 7, 9}, {px(0, 0), least, 0, 0},
		{upTo(auto, 16), plain, 12, 16}, {upTo(auto, 16), least, 16, 16}, {upTo(auto, 16), most, 16, 16}, {upTo(auto, 11), least, 12, 12}, {upTo(auto, 11), plain, 12, 12}, {upTo(auto, 25), most, 20, 25}, {upTo(auto, 0), plain, 12, 12},
		{upTo(cmin, 16), plain, 20, 20}, {upTo(cmin, 16), least, 20, 20}, {upTo(cmax, 16), plain, 90, 90}, {upTo(cmax, 99), plain, 90, 99},
		{fit(50), plain, 12, 50}, {fit(50), least, 20, 50}, {fit(50), most, 20, 50}, {fit(16), least, 16, 16}, {fit(16), plain, 12, 16}, {fit(11), plain, 12, 12}, {fit(11), most, 12, 12}, {fit(0), plain, 12, 12}, {fit(100), plain, 12, 90}, {fit(90), plain, 12, 90},
		{at(of(auto, auto), 50, inf), plain, 50, 90}, {at(of(auto, auto), 95, 99), plain, 95, 95}, {at(of(cmin, cmin), 3, 99), plain, 20, 20}, {at(of(auto, cmax), 3, 40), plain, 12, 90}, {at(fit(50), 30, 35), plain, 30, 50}, {at(fit(17), 18, 18), least, 18, 18}, {at(fit(50), 60, 70), most, 60, 60},
		{at(of(auto, fix), 0, inf), plain, 12, 12}, {at(of(auto, fix), 0, inf), most, 20, 20}, {at(of(auto, fix), 3, inf-1), plain, 12, inf - 1}, {at(of(auto, auto), inf-1, inf), plain, inf - 1, inf - 1},
	} {
		hold(t, []api.Sizing{x.track}, []int{0}, wants, x.mode, []int{x.base}, []int{x.limit})
		slices.Reverse(wants)
		beside := []api.Sizing{of(cmax, cmax), x.track, of(auto, auto)} // nothing is wanted of those at its sides
		hold(t, beside, []int{top, 4, 5}, []api.Want{want(1, 2, 10, 20, 40), want(1, 2, 12, 15, 90)}, x.mode, []int{0, x.base, 0}, []int{0, x.limit, 0})
	}
}

func TestNoWant(t *testing.T) { // P24.1: steps 1 to 3 change nothing, and step 4 all that is Inf
	tracks := []api.Sizing{of(auto, auto), of(cmax, cmin), from(7, auto), px(3, 4), fit(9), at(fit(9), 2, 20), flex(auto, 1000), at(flex(cmin, 0), 8, 9), at(of(auto, cmax), inf-1, inf), at(of(auto, fix), 6, inf)}
	for _, mode := range []int{plain, least, most} {
		hold(t, tracks, gaps(len(tracks), 5), nil, mode, []int{0, 0, 7, 3, 0, 2, 0, 8, inf - 1, 6}, []int{0, 0, 7, 4, 0, 20, 0, 9, inf - 1, 6})
		hold(t, nil, nil, nil, mode, nil, nil)
	}
	hold(t, []api.Sizing{of(auto, auto), fit(4), of(cmin, cmin)}, gaps(3, 0), []api.Want{want(0, 1, 0, 0, 0), want(0, 2, 0, 0, 0), want(2, 3, 0, 0, 0)}, plain, []int{0, 0, 0}, []int{0, 0, 0}) // nor do wants of nothing
}

// several is tracks, wants of several of them, and what comes of it.
type several struct {
	s      []api.Sizing
	gap    int
	w      []api.Want
	mode   int
	bases  []int
	limits []int
}

func holdAll(t *testing.T, l []several) {
	t.Helper()
	for _, x := range l {
		hold(t, x.s, gaps(len(x.s), x.gap), x.w, x.mode, x.bases, x.limits)
		slices.Reverse(x.w) // P24.5
		hold(t, x.s, gaps(len(x.s), x.gap), x.w, x.mode, x.bases, x.limits)
	}
}

func TestBases(t *testing.T) { // P24.1, step 2: a, b and c
	a, n, x := of(auto, auto), of(cmin, cmin), of(cmax, cmax)
	both := []api.Want{want(0, 2, 10, 20, 61)}
	holdAll(t, []several{
		// a: those whose Min is not fixed
		{[]api.Sizing{a, a}, 0, both, plain, []int{5, 5}, []int{31, 30}},
		{[]api.Sizing{a, a}, 0, both, least, []int{10, 10}, []int{31, 30}},
		{[]api.Sizing{a, a}, 3, []api.Want{want(0, 2, 10, 20, 20)}, plain, []int{4, 3}, []int{9, 8}},
		{[]api.Sizing{a, px(4, 4)}, 1, both, plain, []int{5, 4}, []int{56, 4}},
		{[]api.Sizing{px(40, 40), a}, 0, both, plain, []int{40, 0}, []int{40, 21}},
		{[]api.Sizing{px(1, 2), px(3, 4)}, 0, both, plain, []int{1, 3}, []int{2, 4}},
		{[]api.Sizing{px(1, 2), px(3, 4)}, 0, both, most, []int{1, 3}, []int{2, 4}},
		// rooms, and who goes beyond them
		{[]api.Sizing{upTo(auto, 2), a}, 0, both, plain, []int{2, 8}, []int{2, 59}},
		{[]api.Sizing{upTo(auto, 2), upTo(auto, 3)}, 0, both, plain, []int{5, 5}, []int{5, 5}},
		{[]api.Sizing{upTo(auto, 1), at(of(auto, cmin), 0, 2)}, 0, both, plain, []int{1, 9}, []int{1, 19}},
		{[]api.Sizing{fit(2), upTo(auto, 3)}, 0, both, plain, []int{7, 3}, []int{7, 3}},
		{[]api.Sizing{at(fit(6), 0, 2), at(of(auto, auto), 0, 2)}, 0, []api.Want{want(0, 2, 8, 8, 8)}, plain, []int{6, 2}, []int{6, 2}}, // one that fits has room up to Cap, whatever its Limit is
		{[]api.Sizing{at(fit(2), 4, 9), at(of(auto, auto), 0, 3)}, 0, both, plain, []int{6, 4}, []int{6, 27}},
		// b: min-content of those whose Min is it, or max-content
		{[]api.Sizing{a, n}, 0, both, plain, []int{5, 15}, []int{46, 15}},
		{[]api.Sizing{n, upTo(cmin, 3)}, 0, both, plain, []int{17, 3}, []int{17, 3}},
		{[]api.Sizing{upTo(cmin, 5), upTo(cmin, 3)}, 0, both, plain, []int{11, 9}, []int{11, 9}},
		// c: max-content
		{[]api.Sizing{n, x}, 0, both, plain, []int{10, 51}, []int{10, 51}},
		{[]api.Sizing{n, x}, 0, both, least, []int{10, 51}, []int{10, 51}},
		{[]api.Sizing{n, x}, 0, both, most, []int{10, 51}, []int{10, 51}},
		{[]api.Sizing{a, x}, 0, both, plain, []int{5, 56}, []int{5, 56}},
		{[]api.Sizing{a, x}, 0, both, most, []int{31, 30}, []int{31, 30}},
		{[]api.Sizing{a, n}, 0, both, most, []int{51, 10}, []int{51, 10}},
		{[]api.Sizing{a, a}, 0, both, most, []int{31, 30}, []int{31, 30}},
		{[]api.Sizing{at(of(cmax, cmin), 0, 20), upTo(cmax, 9)}, 0, both, plain, []int{36, 25}, []int{36, 25}}, // one whose Max is min-content does not go beyond in c alone
		{[]api.Sizing{at(of(cmax, cmin), 0, 20), at(of(cmax, auto), 0, 9)}, 0, both, plain, []int{20, 41}, []int{20, 41}},
	})
}

func TestLimitedBases(t *testing.T) { // P24.1, step 2: of Limited, not in Plain
	both := []api.Want{want(0, 2, 10, 20, 61)}
	holdAll(t, []several{
		{[]api.Sizing{upTo(auto, 4), upTo(auto, 8)}, 0, both, least, []int{4, 8}, []int{4, 8}},
		{[]api.Sizing{upTo(auto, 4), upTo(auto, 8)}, 3, both, least, []int{4, 8}, []int{4, 8}},
		{[]api.Sizing{upTo(auto, 4), upTo(auto, 8)}, 3, both, plain, []int{4, 3}, []int{4, 8}},
		{[]api.Sizing{upTo(auto, 4), upTo(auto, 8)}, 0, both, most, []int{4, 8}, []int{4, 8}},
		{[]api.Sizing{upTo(auto, 4), upTo(auto, 5)}, 0, both, most, []int{5, 5}, []int{5, 5}},
		{[]api.Sizing{upTo(auto, 40), upTo(auto, 50)}, 0, both, least, []int{10, 10}, []int{40, 50}},
		{[]api.Sizing{upTo(auto, 40), upTo(auto, 50)}, 0, both, most, []int{31, 30}, []int{40, 50}},
		{[]api.Sizing{upTo(auto, 4), upTo(cmax, 8)}, 0, both, most, []int{4, 16}, []int{4, 16}}, // b gives more than is let in a and c
		{[]api.Sizing{fit(4), upTo(auto, 8)}, 0, both, least, []int{4, 8}, []int{4, 8}},
		{[]api.Sizing{at(fit(4), 6, 7), upTo(auto, 8)}, 0, both, least, []int{6, 8}, []int{6, 8}},
		{[]api.Sizing{fit(4), of(auto, cmin)}, 0, both, least, []int{4, 16}, []int{4, 16}},
		// a Limit that is not raised yet counts as it is in c
		{[]api.Sizing{upTo(auto, 5), upTo(auto, 5), upTo(auto, 5)}, 0, []api.Want{want(0, 2, 20, 20, 20), want(1, 3, 0, 0, 20)}, most, []int{10, 10, 0}, []int{10, 10, 5}},
	})
}

func TestLimits(t *testing.T) { // P24.1, step 2: d and e
	a, n, x := of(auto, auto), of(auto, cmin), of(auto, cmax)
	holdAll(t, []several{
		{[]api.Sizing{n, n}, 0, []api.Want{want(0, 2, 10, 21, 61)}, plain, []int{5, 5}, []int{11, 10}},
		{[]api.Sizing{n, x}, 0, []api.Want{want(0, 2, 10, 20, 61)}, plain, []int{5, 5}, []int{10, 51}},
		{[]api.Sizing{x, a}, 0, []api.Want{want(0, 2, 10, 20, 61)}, plain, []int{5, 5}, []int{31, 30}},
		{[]api.Sizing{from(8, auto), from(2, cmin)}, 1, []api.Want{want(0, 2, 0, 15, 31)}, plain, []int{8, 2}, []int{26, 4}},
		{[]api.Sizing{from(8, auto), px(2, 6)}, 1, []api.Want{want(0, 2, 0, 15, 31)}, plain, []int{8, 2}, []int{24, 6}},
		// those with a Limit grow alone where no one has none
		{[]api.Sizing{at(a, 0, 5), a}, 0, []api.Want{want(0, 2, 0, 9, 20)}, plain, []int{0, 0}, []int{5, 15}},
		{[]api.Sizing{at(a, 0, 5), at(a, 0, 6)}, 0, []api.Want{want(0, 2, 0, 13, 20)}, plain, []int{0, 0}, []int{10, 10}},
		{[]api.Sizing{at(a, 0, 5), at(n, 0, 6)}, 0, []api.Want{want(0, 2, 0, 13, 20)}, plain, []int{0, 0}, []int{13, 7}},
		// who had no Limit ahead of d is growable in e, and there alone
		{[]api.Sizing{at(a, 0, 5), a, a}, 0, []api.Want{want(0, 2, 0, 0, 9), want(0, 3, 0, 0, 30)}, plain, []int{0, 0, 0}, []int{5, 4, 21}},
		{[]api.Sizing{a, a, at(a, 0, 7)}, 0, []api.Want{want(0, 2, 0, 10, 10), want(0, 3, 0, 0, 23)}, plain, []int{0, 0, 0}, []int{7, 7, 9}},
		// a Limit that is fixed counts, and stays
		{[]api.Sizing{upTo(auto, 30), a}, 0, []api.Want{want(0, 2, 10, 20, 61)}, plain, []int{5, 5}, []int{30, 31}},
		{[]api.Sizing{at(of(auto, fix), 0, inf), a}, 0, []api.Want{want(0, 2, 10, 20, 61)}, plain, []int{5, 5}, []int{5, 56}},
		// those that fit
		{[]api.Sizing{fit(20), a}, 0, []api.Want{want(0, 2, 10, 20, 61)}, plain, []int{5, 5}, []int{20, 30}},
		{[]api.Sizing{fit(2), a}, 0, []api.Want{want(0, 2, 10, 20, 61)}, plain, []int{2, 8}, []int{2, 33}},
		{[]api.Sizing{fit(60), a}, 0, []api.Want{want(0, 2, 10, 20, 61)}, plain, []int{5, 5}, []int{31, 30}},
		{[]api.Sizing{a, a, fit(20), at(fit(9), 3, 30), at(fit(9), 12, 30), at(fit(9), 3, 8)}, 0, []api.Want{want(0, 2, 0, 0, 10)}, plain, []int{0, 0, 0, 3, 12, 3}, []int{5, 5, 20, 9, 12, 8}}, // of all that fit, if there are wants of several tracks
		{[]api.Sizing{a, fit(20), at(fit(9), 3, 30)}, 0, []api.Want{want(0, 1, 0, 0, 10)}, plain, []int{0, 0, 3}, []int{10, 0, 30}},
	})
}

func TestTogether(t *testing.T) { // P24.1, step 2: wants of as many tracks together, fewer ones first
	a := of(auto, auto)
	holdAll(t, []several{
		{[]api.Sizing{a, a, a}, 0, []api.Want{want(0, 1, 10, 10, 10), want(0, 2, 30, 30, 30), want(0, 3, 90, 90, 90)}, plain, []int{10, 20, 60}, []int{10, 20, 60}},
		{[]api.Sizing{a, a, a}, 0, []api.Want{want(0, 2, 10, 10, 10), want(1, 3, 30, 30, 30)}, plain, []int{5, 15, 15}, []int{5, 15, 15}},
		{[]api.Sizing{a, a, a}, 0, []api.Want{want(0, 2, 10, 10, 10), want(0, 2, 4, 12, 10), want(0, 2, 0, 0, 14)}, plain, []int{5, 5, 0}, []int{7, 7, 0}},
		{[]api.Sizing{a, a, a, a}, 2, []api.Want{want(1, 4, 44, 44, 44), want(2, 4, 22, 22, 22), want(0, 2, 10, 10, 10)}, plain, []int{4, 10, 15, 15}, []int{4, 10, 15, 15}}, // 4 4 10 10 of two; of three 44, less gaps of 4 and bases of 24: 16 more
	})
}

func TestFlexible(t *testing.T) { // P24.1, step 3
	a := of(auto, auto)
	holdAll(t, []several{
		{[]api.Sizing{flex(auto, 1000), a}, 0, []api.Want{want(0, 2, 30, 40, 50), want(0, 1, 5, 6, 7)}, plain, []int{30, 0}, []int{30, 0}},
		{[]api.Sizing{flex(auto, 1000), flex(auto, 3000)}, 2, []api.Want{want(0, 2, 10, 20, 30)}, plain, []int{2, 6}, []int{2, 6}},
		{[]api.Sizing{flex(auto, 1000), flex(auto, 3000)}, 2, []api.Want{want(0, 2, 10, 20, 30)}, least, []int{4, 14}, []int{4, 14}},
		{[]api.Sizing{flex(auto, 1000), flex(auto, 3000)}, 2, []api.Want{want(0, 2, 10, 20, 30)}, most, []int{6, 22}, []int{6, 22}},
		{[]api.Sizing{flex(auto, 0), flex(auto, 0)}, 0, []api.Want{want(0, 2, 11, 20, 30)}, plain, []int{6, 5}, []int{6, 5}},
		{[]api.Sizing{flex(auto, 0), flex(auto, 7)}, 0, []api.Want{want(0, 2, 11, 20, 30)}, plain, []int{0, 11}, []int{0, 11}},
		{[]api.Sizing{flex(fix, 1000), flex(auto, 1000)}, 0, []api.Want{want(0, 2, 11, 20, 30)}, plain, []int{0, 11}, []int{0, 11}},
		{[]api.Sizing{flex(fix, 1000), a}, 0, []api.Want{want(0, 2, 11, 20, 30)}, plain, []int{0, 0}, []int{0, 0}},
		{[]api.Sizing{flex(cmin, 1000), flex(auto, 1000)}, 0, []api.Want{want(0, 2, 10, 20, 30)}, plain, []int{15, 5}, []int{15, 5}},
		{[]api.Sizing{flex(cmax, 1000), flex(auto, 1000)}, 0, []api.Want{want(0, 2, 10, 20, 30)}, plain, []int{25, 5}, []int{25, 5}},
		{[]api.Sizing{flex(cmax, 1000), flex(auto, 1000)}, 0, []api.Want{want(0, 2, 10, 20, 30)}, most, []int{15, 15}, []int{15, 15}},
		{[]api.Sizing{flex(cmax, 1000), flex(cmin, 1000)}, 0, []api.Want{want(0, 2, 10, 20, 30)}, most, []int{20, 10}, []int{20, 10}},
		{[]api.Sizing{flex(cmin, 1000)}, 0, []api.Want{want(0, 1, 10, 20, 30)}, plain, []int{20}, []int{20}},
		{[]api.Sizing{flex(cmax, 1000)}, 0, []api.Want{want(0, 1, 10, 20, 30), want(0, 1, 11, 12, 32)}, plain, []int{32}, []int{32}},
		{[]api.Sizing{at(flex(auto, 1000), 3, 5)}, 0, []api.Want{want(0, 1, 10, 20, 30)}, plain, []int{10}, []int{10}},
		{[]api.Sizing{at(flex(auto, 1000), 3, 50)}, 0, []api.Want{want(0, 1, 10, 20, 30)}, plain, []int{10}, []int{50}},
		{[]api.Sizing{at(flex(auto, 1000), 13, inf)}, 0, []api.Want{want(0, 1, 10, 20, 30)}, plain, []int{13}, []int{13}},
		// all together, whatever they span, behind all others
		{[]api.Sizing{flex(auto, 1000), flex(auto, 1000), a}, 0, []api.Want{want(0, 1, 10, 10, 10), want(0, 3, 60, 60, 60), want(2, 3, 20, 20, 20)}, plain, []int{20, 20, 20}, []int{20, 20, 20}},
		{[]api.Sizing{a, a, flex(auto, 1)}, 0, []api.Want{want(0, 3, 60, 60, 60), want(0, 2, 20, 20, 30)}, plain, []int{10, 10, 40}, []int{15, 15, 40}},
		// of more space a track may get less: each want counts by itself
		{[]api.Sizing{flex(auto, 2), flex(auto, 1), flex(auto, 2)}, 0, []api.Want{want(0, 3, 2, 2, 2), want(0, 3, 3, 3, 3)}, plain, []int{1, 1, 2}, []int{1, 1, 2}},
	})
}

func TestGreatNumbers(t *testing.T) { // P24.1: sums have no room in an int
	a := of(auto, auto)
	s := slices.Repeat([]api.Sizing{at(a, inf-1, inf-1), at(a, inf-1, inf)}, 10000)
	s = append(s, of(cmax, cmax))
	bases := slices.Repeat([]int{inf - 1}, 20000)
	wants := []api.Want{want(0, 20001, top, top, top), want(0, 16384, 1, 1, 1), want(0, 20000, top, top, top), want(19999, 20001, top, top, top)}
	hold(t, s, gaps(len(s), top), wants, plain, append(bases, 0), append(bases, 0))
	for i := range s {
		s[i] = at(upTo(auto, 0), 0, inf)
	}
	zero, parts := make([]int, 20001), make([]int, 20001)
	for i := range 5 {
		parts[i] = 1
	}
	hold(t, s, gaps(len(s), 0), []api.Want{want(0, 20001, 0, 5, 5)}, most, parts, parts)
	hold(t, s, gaps(len(s), 0), []api.Want{want(0, 20001, 0, 5, 5)}, plain, zero, zero)
	hold(t, []api.Sizing{a, a}, gaps(2, top), []api.Want{want(0, 2, top, top, top)}, plain, []int{0, 0}, []int{0, 0})
	hold(t, []api.Sizing{a, a}, gaps(2, 1), []api.Want{want(0, 2, top, top, top)}, plain, []int{top / 2, top/2 - 1}, []int{top / 2, top/2 - 1})
}

func TestHandedIn(t *testing.T) { // rules 4 and 8
	s := []api.Sizing{of(auto, auto), fit(3), flex(auto, 1), px(7, 7)}
	ahead := []int{0, 1, 2, 77}
	wants := []api.Want{want(0, 3, 30, 30, 30), want(0, 2, 20, 20, 20), want(0, 1, 5, 5, 9), want(0, 4, 1, 1, 1)}
	s2, ahead2, wants2 := slices.Clone(s), slices.Clone(ahead), slices.Clone(wants)
	for _, mode := range []int{plain, least, most} {
		l, e := intrinsic.Size(s[:3], ahead[:3], wants[:3], mode)
		if e != api.OK || len(l) != 3 {
			t.Fatal(l, int(e))
		}
		l = append(l, api.Sizing{})
		l[0].Base = -5
		if n := intrinsic.Limited(s[:3], ahead[:3], wants[1], 9); n != 20 {
			t.Error(n)
		}
	}
	if !slices.Equal(s, s2) || !slices.Equal(ahead, ahead2) || !slices.Equal(wants, wants2) {
		t.Error(s, ahead, wants)
	}
}
