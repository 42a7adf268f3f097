package maximise_test

import (
	"math"
	"math/rand/v2"
	"slices"
	"testing"

	"parterre/api"
	"parterre/base"
)

const (
	top  = api.MaxPx
	inf  = api.Inf
	many = 16 * api.MaxNodes // of more tracks than that room is neither given nor parted

	fix  = api.SizeFixed
	auto = api.SizeAuto
	cmin = api.SizeMin
	cmax = api.SizeMax
	fr   = api.SizeFr
)

// of is a track of these kinds with a base and a limit.
func of(min, max, base, limit int) api.Sizing {
	return api.Sizing{Min: min, Max: max, Base: base, Limit: limit}
}

// px is a track of these lengths.
func px(base, limit int) api.Sizing { return of(fix, fix, base, limit) }

// to is a track of this base and limit, all else as it was.
func to(t api.Sizing, base, limit int) api.Sizing {
	t.Base, t.Limit = base, limit
	return t
}

func fit(limit, base int) api.Sizing {
	return api.Sizing{Min: auto, Max: cmax, Fit: true, Cap: limit, Base: base, Limit: inf}
}

func flex(parts, base, limit int) api.Sizing {
	return api.Sizing{Min: auto, Max: fr, Fr: parts, Base: base, Limit: limit}
}

// noSizes are numbers that are neither a gap nor free room.
func noSizes() []int { return []int{math.MinInt, -inf, -top, -1, top + 1, inf, math.MaxInt} }

// wrongs are tracks that are not Good.
func wrongs() []api.Sizing {
	return []api.Sizing{{}, px(3, 2), px(-1, 2), px(inf, inf), px(0, inf+1), px(math.MinInt, 0), px(math.MaxInt, math.MaxInt), of(auto, 6, 0, 0), of(fr, auto, 0, 0), of(0, auto, 0, 0), {Min: auto, Max: auto, Fr: 1}, {Min: auto, Max: fr, Fr: -1}, {Min: auto, Max: auto, Cap: 1}, {Min: auto, Max: auto, Fit: true}}
}

// row is tracks of all kinds.
func row() []api.Sizing {
	return []api.Sizing{px(1, 3), of(auto, auto, 2, 9), fit(7, 3), of(cmin, auto, 4, 4), flex(1500, 5, 6), of(cmax, cmin, 6, inf), of(fix, auto, 7, inf)}
}

// first is as much of a list as one can read.
func first[T any](l []T) []T { return l[:min(len(l), 9)] }

// hold holds tracks against those that they should be.
func hold(t *testing.T, got, want []api.Sizing) {
	t.Helper()
	if !slices.Equal(got, want) {
		t.Errorf("%v, not %v", first(got), first(want))
	}
}

// dice yields what is handed in by chance.
type dice struct{ *rand.Rand }

// size is of any number of bits, mostly of few.
func (d dice) size(most int) int {
	switch d.IntN(20) {
	case 0:
		return most
	case 1:
		return d.IntN(most + 1)
	}
	return d.IntN(min(1<<(1+d.IntN(9)), most+1))
}

func (d dice) track() api.Sizing {
	x := of(fix+d.IntN(4), fix+d.IntN(5), d.size(inf-1), inf)
	switch {
	case d.IntN(6) == 0:
		x = fit(d.size(top), x.Base)
	case x.Max == fr:
		x.Fr = d.size(api.MaxMille)
	}
	if d.IntN(4) > 0 {
		x.Limit = min(x.Base+d.size(inf), inf)
	}
	return x
}

func (d dice) tracks() []api.Sizing {
	l := make([]api.Sizing, d.IntN(8))
	for i := range l {
		for l[i] = d.track(); !base.Good(l[i]); {
			l[i] = d.track()
		}
	}
	return l
}
