package flex_test

import (
	"math"
	"math/big"
	"math/rand/v2"
	"slices"
	"testing"

	"parterre/api"
	"parterre/fixed"
)

const (
	top  = api.MaxPx
	inf  = api.Inf
	many = 16 * api.MaxNodes // among more tracks than that nothing is shared

	fix  = api.SizeFixed
	auto = api.SizeAuto
	cmin = api.SizeMin
	cmax = api.SizeMax
	fr   = api.SizeFr
)

// px is a track of that length.
func px(n int) api.Sizing { return api.Sizing{Min: fix, Max: fix, Base: n, Limit: n} }

// flexible is a track of so many thousandths, with a base.
func flexible(parts, base int) api.Sizing {
	return api.Sizing{Min: auto, Max: fr, Fr: parts, Base: base, Limit: base}
}

func want(from, to, most int) api.Want { return api.Want{From: from, To: to, Max: most} }

// grown is tracks that have these bases, and no less as limit; all else as it was.
func grown(s []api.Sizing, bases ...int) []api.Sizing {
	l := slices.Clone(s)
	for i, n := range bases {
		l[i].Base, l[i].Limit = n, max(n, l[i].Limit)
	}
	return l
}

// first is as much of a list as one can read.
func first[T any](l []T) []T { return l[:min(len(l), 9)] }

// hold holds tracks against those that they should be.
func hold(t *testing.T, got, want []api.Sizing) {
	t.Helper()
	if !slices.Equal(got, want) {
		t.Errorf("%v, not %v", first(got), first(want))
	}
}

// noSizes are numbers that are neither a size nor a space nor a gap.
func noSizes() []int { return []int{math.MinInt, -inf, -top, -1, top + 1, inf, math.MaxInt} }

// wrongs are tracks that may not be handed in.
func wrongs() []api.Sizing {
	open := func(base int) api.Sizing {
		return api.Sizing{Min: auto, Max: fr, Fr: 1000, Base: base, Limit: inf}
	}
	return []api.Sizing{{}, px(-1), px(inf), px(math.MinInt), px(top + 1), px(inf - 1), open(top + 1), open(inf - 1), open(-1), {Min: auto, Max: fr, Fr: -1}, {Min: auto, Max: fr, Fr: api.MaxMille + 1}, {Min: fr, Max: fr}, {Min: auto, Max: auto, Fr: 1}, {Min: fix, Max: fix, Base: 2, Limit: 1}, {Min: auto, Max: fr, Limit: inf + 1}}
}

// walk tells of tracks what the document tells of them, one line after the other, with numbers of any size.
type walk struct {
	s     []api.Sizing
	stiff []bool
	left  int
	sum   int // the Fr of those that are not stiff
	parts int
	some  bool // whether there are such
}

func walked(s []api.Sizing, space int) *walk {
	k := &walk{s: s, stiff: make([]bool, len(s))}
	for k.reckon(space); k.round(); {
		k.reckon(space)
	}
	return k
}

// reckon tells what is left, and the parts.
func (k *walk) reckon(space int) {
	left := big.NewInt(int64(space))
	k.sum, k.some = 0, false
	for i, t := range k.s {
		if t.Max != fr || k.stiff[i] {
			left.Sub(left, big.NewInt(int64(t.Base)))
		} else {
			k.sum, k.some = k.sum+t.Fr, true
		}
	}
	k.left = 0
	if left.Sign() > 0 {
		k.left = int(left.Int64())
	}
	k.parts = max(k.sum, 1000)
}

// round finds all that are stiff now, too, and tells whether there is one.
func (k *walk) round() bool {
	some := false
	for i, t := range k.s {
		if t.Max != fr || k.stiff[i] {
			continue
		}
		part := big.NewRat(int64(t.Fr), int64(k.parts))
		part.Mul(part, new(big.Rat).SetInt64(int64(k.left)))
		if part.Cmp(new(big.Rat).SetInt64(int64(t.Base))) < 0 {
			k.stiff[i], some = true, true
		}
	}
	return some
}

// up tells a quotient, rounded up.
func up(a, b int) int {
	if a%b > 0 {
		return a/b + 1
	}
	return a / b
}

func (k *walk) unit() int {
	if !k.some {
		return 0
	}
	return up(k.left*1000, k.parts)
}

// part tells a number times another one by Mille.
func part(a, b int) int {
	n := new(big.Int).Mul(big.NewInt(int64(a)), big.NewInt(int64(b)))
	return int(n.Div(n, big.NewInt(1000)).Int64())
}

func filled(s []api.Sizing, ahead []int, size int) []api.Sizing {
	for _, n := range ahead {
		size -= n
	}
	k := walked(s, size)
	var open, weights []int
	for i, t := range s {
		if t.Max == fr && !k.stiff[i] {
			open, weights = append(open, i), append(weights, t.Fr)
		}
	}
	l := slices.Clone(s)
	for j, i := range open {
		n := part(k.left, s[i].Fr)
		if k.sum >= 1000 {
			n = fixed.Share(k.left, weights)[j]
		}
		l[i].Base = max(l[i].Base, n)
		l[i].Limit = max(l[i].Limit, l[i].Base)
	}
	return l
}

func flexed(s []api.Sizing, ahead []int, wants []api.Want) []api.Sizing {
	unit := 0
	for _, t := range s {
		if t.Max == fr {
			unit = max(unit, up(t.Base*1000, max(t.Fr, 1000)))
		}
	}
	for _, w := range wants {
		space := w.Max
		for i := w.From + 1; i < w.To; i++ {
			space -= ahead[i]
		}
		unit = max(unit, walked(s[w.From:w.To], max(space, 0)).unit())
	}
	l := slices.Clone(s)
	for i, t := range s {
		if t.Max == fr {
			l[i].Base = max(l[i].Base, min(part(unit, t.Fr), top))
			l[i].Limit = max(l[i].Limit, l[i].Base)
		}
	}
	return l
}

// dice yields what is handed in by chance.
type dice struct{ *rand.Rand }

// size is of any number of bits, mostly of few, up to a greatest one.
func (d dice) size(most int) int {
	switch d.IntN(30) {
	case 0:
		return most
	case 1:
		return d.IntN(most + 1)
	}
	return d.IntN(min(1<<(1+d.IntN(8)), most+1))
}

func (d dice) track() api.Sizing {
	x := api.Sizing{Min: fix + d.IntN(4), Max: fix + d.IntN(4), Base: d.size(top)}
	if d.IntN(4) > 0 {
		x.Max, x.Fr = fr, []int{0, 1, 2, 100, 300, 500, 999, 1000, 1000, 1000, 1500, 2000, 3000, d.IntN(4000), d.IntN(1 << 20), api.MaxMille}[d.IntN(16)]
		x.Base /= 1 + d.IntN(100)
	}
	x.Limit = []int{x.Base, x.Base + d.size(top), inf}[d.IntN(3)]
	return x
}

// tracks are now and then such that have a whole fr together, and now and then none that have.
func (d dice) tracks() []api.Sizing {
	l := make([]api.Sizing, d.IntN(9))
	small := d.IntN(4) == 0
	for i := range l {
		for l[i] = d.track(); small && l[i].Fr > 500; {
			l[i] = d.track()
		}
	}
	return l
}

func (d dice) gaps(count int) []int {
	l := make([]int, count)
	for i := range l {
		if d.IntN(3) == 0 {
			l[i] = d.size(top) / 8
		}
	}
	return l
}

func (d dice) wants(tracks int) []api.Want {
	var l []api.Want
	for range d.IntN(6) {
		if tracks > 0 {
			from := d.IntN(tracks)
			l = append(l, api.Want{From: from, To: from + 1 + d.IntN(tracks-from), Least: d.size(top), Min: d.size(top), Max: d.size(top)})
		}
	}
	return l
}
