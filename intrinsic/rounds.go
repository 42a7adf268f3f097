package intrinsic

import (
	"slices"

	"parterre/api"
	"parterre/base"
	"parterre/spread"
)

// kinds tells of each kind of a size whether it is one of a set.
type kinds [api.SizeFr + 1]bool

func notFixed() kinds {
	return kinds{api.SizeAuto: true, api.SizeMin: true, api.SizeMax: true, api.SizeFr: true}
}

func autoOrMax() kinds { return kinds{api.SizeAuto: true, api.SizeMax: true} }

// round is what a round is of.
type round struct {
	places []int                           // of its tracks
	to     func(api.Want) int              // what is wanted of them
	sum    int                             // which of the sums counts
	give   func(space, from, to int) []int // what those of places get, from one on, ahead of another one
}

// untouched is what those of a round get that no want spans.
const untouched = -1

// bases is the rounds a, b and c, of which each is handed the tracks that it is of, by their Min, what is wanted of them, and who goes beyond their room, by their Max.
func (r row) bases(round func(of kinds, to func(api.Want) int, beyond kinds)) {
	round(notFixed(), r.least, notFixed())
	round(kinds{api.SizeMin: true, api.SizeMax: true}, wantedMin, notFixed())
	if r.mode == MaxContent {
		limited := func(w api.Want) int { return r.limited(w, w.Max) }
		round(autoOrMax(), limited, autoOrMax())
	} else {
		round(kinds{api.SizeMax: true}, wantedMax, autoOrMax())
	}
	for i := range r.s {
		r.s[i].Limit = base.Raise(r.s[i]).Limit
	}
}

func wantedMin(w api.Want) int { return w.Min }

func wantedMax(w api.Want) int { return w.Max }

// grow lets Bases grow by a round.
func (r row) grow(wants []api.Want, x round) {
	for i, n := range r.gifts(wants, x) {
		r.s[x.places[i]].Base += max(n, 0)
	}
}

// gifts tells what each track of a round gets: the greatest of what the wants give it.
func (r row) gifts(wants []api.Want, x round) []int {
	got := slices.Repeat([]int{untouched}, len(x.places))
	for _, w := range wants {
		from, _ := slices.BinarySearch(x.places, w.From)
		to, _ := slices.BinarySearch(x.places, w.To)
		for i := from; i < to; i++ {
			got[i] = max(got[i], 0)
		}
		space := x.to(w) - r.sums(w)[x.sum]
		if space <= 0 {
			continue // most wants have all they want by what others got
		}
		for i, n := range x.give(space, from, to) {
			got[from+i] = max(got[from+i], n)
		}
	}
	return got
}

// places tells where tracks of a kind are.
func (r row) places(is func(api.Sizing) bool) []int {
	l := make([]int, 0, len(r.s))
	for at := range r.s {
		if is(r.s[at]) {
			l = append(l, at)
		}
	}
	return l
}

// filler tells how spread's Fill gives space to the tracks at some places. Where none of those that a want spans goes beyond its room, all of them do.
func (r row) filler(places []int, room func(at int) int, beyond kinds) func(space, from, to int) []int {
	return func(space, from, to int) []int {
		rooms, some := make([]int, to-from), make([]bool, to-from)
		for i, at := range places[from:to] {
			rooms[i], some[i] = room(at), beyond[r.s[at].Max]
		}
		if !slices.Contains(some, true) {
			some = slices.Repeat([]bool{true}, len(some))
		}
		return spread.Fill(space, rooms, some)
	}
}
