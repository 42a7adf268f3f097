package intrinsic_test

import (
	"math"
	"slices"
	"testing"

	"parterre/api"
	"parterre/base"
	"parterre/intrinsic"
	"parterre/spread"
)

const (
	top = api.MaxPx
	inf = api.Inf

	fix  = api.SizeFixed
	auto = api.SizeAuto
	cmin = api.SizeMin
	cmax = api.SizeMax
	fr   = api.SizeFr
)

// of is a track of these kinds that begins with nothing.
func of(min, max int) api.Sizing { return api.Sizing{Min: min, Max: max, Limit: inf} }

// px is a track of these lengths.
func px(least, greatest int) api.Sizing {
	return api.Sizing{Min: fix, Max: fix, Base: least, Limit: greatest}
}

// upTo is a track of a least kind and a fixed greatest size.
func upTo(min, limit int) api.Sizing { return api.Sizing{Min: min, Max: fix, Limit: limit} }

// from is a track of a fixed least size and a greatest kind.
func from(least, max int) api.Sizing {
	return api.Sizing{Min: fix, Max: max, Base: least, Limit: inf}
}

func fit(limit int) api.Sizing {
	return api.Sizing{Min: auto, Max: cmax, Fit: true, Cap: limit, Limit: inf}
}

func flex(min, parts int) api.Sizing {
	return api.Sizing{Min: min, Max: fr, Fr: parts, Limit: inf}
}

// at is a track that has a base and a limit already.
func at(t api.Sizing, base, limit int) api.Sizing {
	t.Base, t.Limit = base, limit
	return t
}

func want(from, to, least, min, max int) api.Want {
	return api.Want{From: from, To: to, Least: least, Min: min, Max: max}
}

// gaps is a gap ahead of each track but the first one.
func gaps(count, gap int) []int {
	l := slices.Repeat([]int{gap}, count)
	if count > 0 {
		l[0] = 0
	}
	return l
}

// noSizes are sizes that may not be wanted.
func noSizes() []int { return []int{math.MinInt, -top, -1, top + 1, math.MaxInt} }

// hold holds Size against the bases and the limits that it should tell, and that nothing else of a track is changed.
func hold(t *testing.T, s []api.Sizing, ahead []int, wants []api.Want, mode int, bases, limits []int) {
	t.Helper()
	l, e := intrinsic.Size(s, ahead, wants, mode)
	if e != api.OK || len(l) != len(s) {
		t.Fatalf("%v, %v, %v, %d: %v, %d", s, ahead, wants, mode, l, int(e))
	}
	for i, x := range s {
		if x = at(x, bases[i], limits[i]); l[i] != x {
			t.Errorf("%v, %v, %v, %d: track %d: %d to %d, not %d to %d", s, ahead, wants, mode, i, l[i].Base, l[i].Limit, x.Base, x.Limit)
		}
	}
}

// walk sizes tracks as the document tells it, one line after the other: want by want, without a thought of what is needed.
type walk struct {
	s        []api.Sizing
	ahead    []int
	mode     int
	growable []bool
}

func (k *walk) fits(i int) int {
	if k.s[i].Base > k.s[i].Cap {
		return k.s[i].Base
	}
	return k.s[i].Cap
}

func (k *walk) isFlexible(w api.Want) bool {
	for i := w.From; i < w.To; i++ {
		if k.s[i].Max == fr {
			return true
		}
	}
	return false
}

// less tells what is left of something, less a number of each track that is spanned, and the gaps within.
func (k *walk) less(n int, w api.Want, number func(i int) int) int {
	for i := w.From; i < w.To && n > 0; i++ {
		if n -= number(i); i > w.From {
			n -= k.ahead[i]
		}
	}
	return max(n, 0)
}

func (k *walk) limited(w api.Want, n int) int {
	answer := n
	limits := func(i int) int {
		if k.s[i].Fit {
			return k.fits(i)
		}
		return k.s[i].Limit
	}
	bound := true
	for i := w.From; i < w.To; i++ {
		bound = bound && (k.s[i].Max == fix || k.s[i].Fit)
	}
	if bound {
		answer = n - k.less(n, w, limits) // n, less what of n is more than the sum
	}
	return max(answer, w.Least)
}

func (k *walk) raise() {
	for i, x := range k.s {
		k.s[i] = base.Raise(x)
	}
}

func (k *walk) one(i int, wants []api.Want) {
	least, min, max, some := 0, 0, 0, false
	for _, w := range wants {
		if w.From != i || w.To != i+1 {
			continue
		}
		some = true
		n := w.Least
		if k.mode != intrinsic.Plain {
			n = k.limited(w, w.Min)
		}
		if n > least {
			least = n
		}
		if w.Min > min {
			min = w.Min
		}
		if w.Max > max {
			max = w.Max
		}
	}
	x := k.s[i]
	if !some || x.Max == fr {
		return
	}
	if n := map[int]int{cmin: min, cmax: max, auto: least}[x.Min]; x.Base < n {
		x.Base = n
	}
	if n, is := map[int]int{cmin: min, cmax: max, auto: max}[x.Max]; is {
		x.Limit = n
	}
	if x.Fit && x.Limit > x.Cap {
		x.Limit = x.Cap
	}
	k.s[i] = base.Raise(x)
}

// most tells of each track the greatest of what wants give it; of those that none of them gives something to, nothing.
func (k *walk) most(wants []api.Want, is func(i int) bool, give func(w api.Want, l []int) []int) map[int]int {
	got := map[int]int{}
	for _, w := range wants {
		var l []int
		for i := w.From; i < w.To; i++ {
			if is(i) {
				l = append(l, i)
			}
		}
		for j, n := range give(w, l) {
			got[l[j]] = max(got[l[j]], n)
		}
	}
	return got
}

func (k *walk) baseRound(wants []api.Want, is func(i int) bool, to func(w api.Want) int, beyond func(i int) bool, flexible bool) {
	got := k.most(wants, is, func(w api.Want, l []int) []int {
		space := k.less(to(w), w, func(i int) int { return k.s[i].Base })
		var room, parts []int
		var goes, all []bool
		for _, i := range l {
			n := k.s[i].Limit - k.s[i].Base
			if k.s[i].Fit {
				n = k.fits(i) - k.s[i].Base
			}
			room, parts = append(room, max(n, 0)), append(parts, k.s[i].Fr)
			goes, all = append(goes, beyond(i)), append(all, true)
		}
		if flexible {
			return spread.By(space, parts)
		}
		if !slices.Contains(goes, true) {
			goes = all
		}
		return spread.Fill(space, room, goes)
	})
	for i, n := range got {
		k.s[i].Base += n
	}
}

func (k *walk) limitRound(wants []api.Want, is func(i int) bool, to func(w api.Want) int) {
	got := k.most(wants, is, func(w api.Want, l []int) []int {
		space := k.less(to(w), w, func(i int) int {
			if k.s[i].Limit == inf {
				return k.s[i].Base
			}
			return k.s[i].Limit
		})
		var room []int
		var all []bool
		for _, i := range l {
			n := 0
			if k.s[i].Limit == inf || k.growable[i] {
				n = inf
			}
			room, all = append(room, n), append(all, true)
		}
		return spread.Fill(space, room, all)
	})
	for i, n := range got {
		if k.s[i].Limit == inf {
			k.s[i].Limit = k.s[i].Base
		}
		k.s[i].Limit += n
	}
}

// abc is the rounds of bases.
func (k *walk) abc(wants []api.Want, flexible bool) {
	round := func(to func(w api.Want) int, beyond func(i int) bool, kinds ...int) {
		is := func(i int) bool {
			return slices.Contains(kinds, k.s[i].Min) && (!flexible || k.s[i].Max == fr)
		}
		k.baseRound(wants, is, to, beyond, flexible)
	}
	open := func(i int) bool { return k.s[i].Max != fix }
	content := func(i int) bool { return k.s[i].Max == cmax || k.s[i].Max == auto }
	round(func(w api.Want) int {
		if k.mode == intrinsic.Plain {
			return w.Least
		}
		return k.limited(w, w.Min)
	}, open, auto, cmin, cmax)
	round(func(w api.Want) int { return w.Min }, open, cmin, cmax)
	if k.mode == intrinsic.MaxContent {
		round(func(w api.Want) int { return k.limited(w, w.Max) }, content, auto, cmax)
	} else {
		round(func(w api.Want) int { return w.Max }, content, cmax)
	}
	k.raise()
}

func (k *walk) several(wants []api.Want) {
	k.abc(wants, false)
	k.growable = make([]bool, len(k.s))
	was := slices.Clone(k.s)
	k.limitRound(wants, func(i int) bool { return k.s[i].Max != fix }, func(w api.Want) int { return w.Min })
	for i := range k.s {
		k.growable[i] = was[i].Limit == inf && k.s[i].Limit != inf
	}
	k.limitRound(wants, func(i int) bool { return k.s[i].Max == cmax || k.s[i].Max == auto }, func(w api.Want) int { return w.Max })
	for i, x := range k.s {
		if x.Fit && x.Limit > k.fits(i) {
			k.s[i].Limit = k.fits(i)
		}
	}
}

// walked tells what the walk comes to.
func walked(s []api.Sizing, ahead []int, wants []api.Want, mode int) []api.Sizing {
	k := &walk{s: slices.Clone(s), ahead: ahead, mode: mode}
	for i := range s {
		k.one(i, wants)
	}
	for count := 2; count <= len(s); count++ {
		var group []api.Want
		for _, w := range wants {
			if w.To-w.From == count && !k.isFlexible(w) {
				group = append(group, w)
			}
		}
		if len(group) > 0 {
			k.several(group)
		}
	}
	var flexible []api.Want
	for _, w := range wants {
		if k.isFlexible(w) {
			flexible = append(flexible, w)
		}
	}
	k.abc(flexible, true)
	for i, x := range k.s {
		if x.Limit == inf {
			k.s[i].Limit = x.Base
		}
	}
	return k.s
}
