package intrinsic

import (
	"parterre/api"
	"parterre/base"
	"parterre/spread"
)

// ones is the first step, of wants that span one track each.
func (r row) ones(wants []api.Want) {
	for _, w := range wants {
		r.s[w.From] = one(r.s[w.From], r.least(w), w)
	}
}

// one tells a track that a want spans alone.
func one(t api.Sizing, least int, w api.Want) api.Sizing {
	switch t.Min {
	case api.SizeAuto:
		t.Base = max(t.Base, least)
	case api.SizeMin:
		t.Base = max(t.Base, w.Min)
	case api.SizeMax:
		t.Base = max(t.Base, w.Max)
	}
	switch t.Max {
	case api.SizeMin:
		t.Limit = w.Min
	case api.SizeAuto, api.SizeMax:
		t.Limit = w.Max
	}
	if t.Fit {
		t.Limit = min(t.Limit, t.Cap)
	}
	return base.Raise(t)
}

// several is the second step, of sorted wants that span as many tracks, but for what becomes of those that fit.
func (r row) several(wants []api.Want) {
	r, wants = r.cut(wants)
	room := func(at int) int { return max(most(r.s[at])-r.s[at].Base, 0) }
	r.bases(func(of kinds, to func(api.Want) int, beyond kinds) {
		places := r.places(func(t api.Sizing) bool { return of[t.Min] })
		r.grow(wants, round{places, to, ofBases, r.filler(places, room, beyond)})
	})
	r.limits(wants)
}

// cut tells the tracks from the first one that sorted wants span up to the last one, and the wants as they are from there on. There may be many groups of few wants: none of them should go through all tracks.
func (r row) cut(wants []api.Want) (row, []api.Want) {
	low, high := wants[0].From, wants[len(wants)-1].To
	moved := make([]api.Want, len(wants))
	for i, w := range wants {
		w.From, w.To = w.From-low, w.To-low
		moved[i] = w
	}
	return row{r.s[low:high], r.ahead[low:high], r.mode}, moved
}

// limits is the rounds d and e.
func (r row) limits(wants []api.Want) {
	growable := make([]bool, len(r.s))
	room := func(at int) int {
		if r.s[at].Limit == api.Inf || growable[at] {
			return api.Inf
		}
		return 0
	}
	raise := func(of kinds, to func(api.Want) int) {
		places := r.places(func(t api.Sizing) bool { return of[t.Max] })
		x := round{places, to, ofReached, r.filler(places, room, kinds{})}
		for i, n := range r.gifts(wants, x) {
			if at := places[i]; n != untouched {
				growable[at] = growable[at] || r.s[at].Limit == api.Inf
				r.s[at].Limit = reached(r.s[at]) + n
			}
		}
	}
	raise(notFixed(), wantedMin)
	raise(autoOrMax(), wantedMax)
}

// fit lets no Limit of a track that fits be above its limit so.
func (r row) fit() {
	for i := range r.s {
		r.s[i].Limit = min(r.s[i].Limit, most(r.s[i]))
	}
}

// flexible is the third step, of all wants that span a flexible track.
func (r row) flexible(wants []api.Want) {
	r.bases(func(of kinds, to func(api.Want) int, _ kinds) {
		places := r.places(func(t api.Sizing) bool { return isFlexible(t) && of[t.Min] })
		parts := make([]int, len(places))
		for i, at := range places {
			parts[i] = r.s[at].Fr
		}
		give := func(space, from, to int) []int { return spread.By(space, parts[from:to]) }
		r.grow(wants, round{places, to, ofBases, give})
	})
}
