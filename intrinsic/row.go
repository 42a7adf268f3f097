package intrinsic

import (
	"math"
	"slices"

	"parterre/api"
)

// row is tracks that are being sized, side by side.
type row struct {
	s     []api.Sizing
	ahead []int
	mode  int
}

func isFlexible(t api.Sizing) bool { return t.Max == api.SizeFr }

// most tells a track's limit; of one that fits its own, whatever Limit is.
func most(t api.Sizing) int {
	if t.Fit {
		return max(t.Cap, t.Base)
	}
	return t.Limit
}

// reached tells a track's limit, or what it has, where there is none yet.
func reached(t api.Sizing) int {
	if t.Limit == api.Inf {
		return t.Base
	}
	return t.Limit
}

// The sums of the tracks that a want spans.
const (
	ofBases = iota
	ofReached
	ofMost
)

// sums tells them, each with the gaps within.
func (r row) sums(w api.Want) [3]int {
	var sum [3]int
	for at := w.From; at < w.To; at++ {
		t, gap := &r.s[at], 0
		if at > w.From {
			gap = r.ahead[at]
		}
		sum[ofBases] = plus(sum[ofBases], t.Base+gap)
		sum[ofReached] = plus(sum[ofReached], reached(*t)+gap)
		sum[ofMost] = plus(sum[ofMost], most(*t)+gap)
	}
	return sum
}

// plus tells the sum of two numbers that are not below 0, or the greatest int, where it has no room: nothing that is wanted is more than that.
func plus(a, b int) int { return min(a, math.MaxInt-b) + b }

// limited tells what is wanted, as far as fixed tracks let it.
func (r row) limited(w api.Want, n int) int {
	lets := func(t api.Sizing) bool { return t.Max != api.SizeFixed && !t.Fit }
	if !slices.ContainsFunc(r.s[w.From:w.To], lets) {
		n = min(n, r.sums(w)[ofMost])
	}
	return max(n, w.Least)
}

// least tells what is wanted of tracks that are not fixed.
func (r row) least(w api.Want) int {
	if r.mode == Plain {
		return w.Least
	}
	return r.limited(w, w.Min)
}
