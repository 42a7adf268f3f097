package intrinsic_test

import (
	"math/rand/v2"
	"slices"
	"testing"

	"parterre/api"
	"parterre/base"
	"parterre/intrinsic"
)

// dice yields what is handed to Size by chance.
type dice struct{ *rand.Rand }

// size is mostly small, so that sizes meet, and now and then as great as it may be.
func (d dice) size(most int) int {
	switch d.IntN(40) {
	case 0:
		return most
	case 1:
		return most - d.IntN(9)
	case 2:
		return d.IntN(most + 1)
	}
	return d.IntN(30)
}

func (d dice) track() api.Sizing {
	x := api.Sizing{Min: fix + d.IntN(4), Max: fix + d.IntN(5), Limit: inf}
	switch {
	case d.IntN(5) == 0:
		x = fit(d.size(top))
	case x.Max == fr:
		x.Fr = []int{0, 1, 2, 1000, 1500, api.MaxMille}[d.IntN(6)]
	}
	if x.Min == fix || d.IntN(6) == 0 {
		x.Base = d.size(inf - 1)
	}
	if x.Max == fix && d.IntN(9) > 0 || d.IntN(6) == 0 {
		x.Limit = min(x.Base+d.size(inf), inf)
	}
	return x
}

// tracks has few flexible ones, now and then none.
func (d dice) tracks(count int) []api.Sizing {
	flexible := d.IntN(3)
	l := make([]api.Sizing, count)
	for i := range l {
		for l[i] = d.track(); l[i].Max == fr && d.IntN(3) >= flexible; {
			l[i] = d.track()
		}
	}
	return l
}

func (d dice) want(tracks int) api.Want {
	from := d.IntN(tracks)
	w := want(from, from+1+d.IntN(min(tracks-from, 4)), d.size(top), d.size(top), d.size(top))
	if d.IntN(3) > 0 {
		l := []int{w.Least, w.Min, w.Max}
		slices.Sort(l)
		w.Least, w.Min, w.Max = l[0], l[1], l[2]
	}
	return w
}

func (d dice) handed() handed {
	count := d.IntN(8)
	h := handed{s: d.tracks(count), ahead: make([]int, count), mode: d.IntN(3)}
	for i := range h.ahead {
		if d.IntN(2) == 0 {
			h.ahead[i] = d.size(top) / 4
		}
	}
	if count > 0 {
		for range d.IntN(9) {
			h.wants = append(h.wants, d.want(count))
		}
	}
	return h
}

// enough tells whether a want has what it must have, if it must.
func enough(s, sized []api.Sizing, ahead []int, w api.Want) bool { // P24.3
	must := w.Least <= w.Min && w.Min <= w.Max
	some := false
	sum := 0
	for i := w.From; i < w.To; i++ {
		must = must && s[i].Max != fr
		some = some || s[i].Min != fix
		if sum = min(sum+sized[i].Base, top); i > w.From {
			sum = min(sum+ahead[i], top)
		}
	}
	return !must || !some || w.Least <= sum
}

func TestByChance(t *testing.T) { // P24.1, and P24.3 to P24.5
	d := dice{rand.New(rand.NewPCG(24, 1))}
	for range 150000 {
		h := d.handed()
		if !h.good() {
			t.Fatal(h)
		}
		l, e := intrinsic.Size(h.s, h.ahead, h.wants, h.mode)
		if should := walked(h.s, h.ahead, h.wants, h.mode); e != api.OK || !slices.Equal(l, should) {
			t.Fatalf("%v: %v, not %v, %d", h, l, should, int(e))
		}
		for i, x := range l { // P24.4
			if x.Base < h.s[i].Base || x.Limit < x.Base || x.Limit >= inf || !base.Good(x) || at(x, h.s[i].Base, h.s[i].Limit) != h.s[i] {
				t.Fatal(h, l)
			}
		}
		for _, w := range h.wants { // P24.3
			if !enough(h.s, l, h.ahead, w) {
				t.Fatal(h, l, w)
			}
		}
		d.Shuffle(len(h.wants), func(i, k int) { h.wants[i], h.wants[k] = h.wants[k], h.wants[i] })
		if other, e := intrinsic.Size(h.s, h.ahead, h.wants, h.mode); e != api.OK || !slices.Equal(l, other) { // P24.5
			t.Fatal(h, l, other)
		}
	}
}

func TestLimitedByChance(t *testing.T) { // P24.2
	d := dice{rand.New(rand.NewPCG(24, 2))}
	for range 50000 {
		h := d.handed()
		for _, w := range h.wants {
			n := d.size(top) - d.size(top)/2
			k := &walk{s: h.s, ahead: h.ahead}
			if l := intrinsic.Limited(h.s, h.ahead, w, n); l != k.limited(w, n) {
				t.Fatal(h, w, n, l)
			}
		}
	}
}

func TestManyByChance(t *testing.T) { // P24.1: long tracks, and many wants
	d := dice{rand.New(rand.NewPCG(24, 3))}
	for mode := range 3 {
		for _, flexible := range []bool{false, true} {
			h := handed{mode: mode, ahead: gaps(400, 3)}
			for len(h.s) < 400 {
				if x := d.track(); flexible || x.Max != fr {
					h.s = append(h.s, x)
				}
			}
			for range 500 {
				from := d.IntN(300)
				h.wants = append(h.wants, want(from, from+1+d.IntN(100), d.IntN(9000), d.IntN(9000), d.IntN(90000)))
			}
			l, e := intrinsic.Size(h.s, h.ahead, h.wants, mode)
			if should := walked(h.s, h.ahead, h.wants, mode); e != api.OK || !slices.Equal(l, should) {
				t.Error(mode, flexible, int(e))
			}
		}
	}
}

func TestMost(t *testing.T) { // as many wants as there may be, of as many tracks as a grid may have: it ends soon
	s := make([]api.Sizing, 4*api.MaxLine)
	for i := range s {
		s[i] = []api.Sizing{of(auto, auto), fit(i), of(cmin, cmin), flex(auto, 1000)}[min(i/12000, 3)]
	}
	wants := make([]api.Want, api.MaxNodes)
	for i := range wants {
		wants[i] = want(i*9, i*9+1+i%500, i*50, i*60, i*70)
	}
	for mode := range 3 {
		if l, e := intrinsic.Size(s, gaps(len(s), 1), wants, mode); e != api.OK || len(l) != len(s) {
			t.Error(mode, int(e))
		}
	}
}

func TestBeyondSpread(t *testing.T) { // P24.1: of more tracks than spread gives something to, none gets something
	const many = 16 * api.MaxNodes
	s := slices.Repeat([]api.Sizing{of(auto, auto)}, many+1)
	one, none := slices.Repeat([]int{1}, many), make([]int, many+1)
	hold(t, s[:many], gaps(many, 0), []api.Want{want(0, many, many, many, many)}, plain, one, one)
	hold(t, s, gaps(many+1, 0), []api.Want{want(0, many+1, many, many, many)}, plain, none, none)
	s[many] = px(0, 0)
	hold(t, s, gaps(many+1, 0), []api.Want{want(0, many+1, many, many, many)}, plain, append(one, 0), append(one, 0))
}
