package tracks_test

import (
	"math"
	"math/rand/v2"
	"slices"
	"testing"

	"parterre/api"
	"parterre/intrinsic"
	"parterre/tracks"
)

const (
	top  = api.MaxPx
	most = 4 * api.MaxLine

	plain  = intrinsic.Plain
	minimi = intrinsic.MinContent
	maximi = intrinsic.MaxContent
)

func px(n int) api.Len  { return api.Len{Kind: api.LenPx, N: n} }
func pct(n int) api.Len { return api.Len{Kind: api.LenPct, N: n * api.Mille} }
func fr(n int) api.Len  { return api.Len{Kind: api.LenFr, N: n} }
func auto() api.Len     { return api.Len{Kind: api.LenAuto} }
func least() api.Len    { return api.Len{Kind: api.LenMin} }
func greatest() api.Len { return api.Len{Kind: api.LenMax} }

// one is a track of one size.
func one(v api.Len) api.Track { return api.Track{Min: v, Max: v} }

func between(a, b api.Len) api.Track { return api.Track{Min: a, Max: b} }

// flexible is a track of so many thousandths.
func flexible(n int) api.Track { return between(auto(), fr(n)) }

func fit(v api.Len) api.Track {
	return api.Track{Min: auto(), Max: greatest(), Fit: true, Limit: v}
}

// row is tracks with a gap between each two.
func row(gap int, l ...api.Track) api.Tracks {
	t := api.Tracks{List: l, Gone: make([]bool, len(l)), Ahead: make([]int, len(l))}
	for i := 1; i < len(l); i++ {
		t.Ahead[i] = gap
	}
	return t
}

// without is tracks of which some are gone.
func without(t api.Tracks, places ...int) api.Tracks {
	t.Gone, t.Ahead = slices.Clone(t.Gone), slices.Clone(t.Ahead)
	for _, i := range places {
		t.Gone[i], t.Ahead[i] = true, 0
	}
	return t
}

func many(count int, x api.Track) api.Tracks {
	return row(0, slices.Repeat([]api.Track{x}, count)...)
}

func want(from, to, least, min, max int) api.Want {
	return api.Want{From: from, To: to, Least: least, Min: min, Max: max}
}

// noSizes are numbers that are no size.
func noSizes() []int { return []int{math.MinInt, -top, -1, top + 1, math.MaxInt} }

// wrongs are tracks that may not be handed in.
func wrongs() []api.Tracks {
	good := func() api.Tracks { return row(3, one(px(1)), one(auto()), one(px(2))) }
	l := []api.Tracks{many(most+1, one(px(1)))}
	change := func(f func(t *api.Tracks)) {
		t := good()
		f(&t)
		l = append(l, t)
	}
	change(func(t *api.Tracks) { t.Low = 1 })
	change(func(t *api.Tracks) { t.Low = -api.MaxLine - 1 })
	change(func(t *api.Tracks) { t.Gone = t.Gone[:2] })
	change(func(t *api.Tracks) { t.Gone = nil })
	change(func(t *api.Tracks) { t.Gone = append(t.Gone, false) })
	change(func(t *api.Tracks) { t.Ahead = t.Ahead[:2] })
	change(func(t *api.Tracks) { t.Ahead = append(t.Ahead, 0) })
	change(func(t *api.Tracks) { t.List = t.List[:2] })
	change(func(t *api.Tracks) { t.Ahead[0] = 1 })
	change(func(t *api.Tracks) { t.Ahead[1] = -1 })
	change(func(t *api.Tracks) { t.Ahead[2] = top + 1 })
	change(func(t *api.Tracks) { t.Gone[2] = true })
	change(func(t *api.Tracks) { t.List[1] = api.Track{} })
	change(func(t *api.Tracks) { t.List[1] = one(fr(1000)) })
	change(func(t *api.Tracks) { t.List[2] = one(px(-1)) })
	change(func(t *api.Tracks) { t.List[2].Fit = true })
	return l
}

// first is as much of a list as one can read.
func first[T any](l []T) []T { return l[:min(len(l), 9)] }

// asked is what Size is handed.
type asked struct {
	t       api.Tracks
	size    int
	mode    int
	wants   []api.Want
	stretch bool
}

func (a asked) tell() ([]int, api.Errno) {
	return tracks.Size(a.t, a.size, a.mode, a.wants, a.stretch)
}

// gives holds what Size tells.
func (a asked) gives(t *testing.T, sizes ...int) {
	t.Helper()
	if l, e := a.tell(); e != api.OK || !slices.Equal(l, sizes) {
		t.Errorf("%v in %d, mode %d, %v, %t: %v, %d, not %v", first(a.t.List), a.size, a.mode, first(a.wants), a.stretch, first(l), int(e), first(sizes))
	}
}

// fails holds the error that Size tells.
func (a asked) fails(t *testing.T, fault api.Errno) {
	t.Helper()
	if l, e := a.tell(); e != fault || len(l) != 0 {
		t.Errorf("%v in %d, mode %d, %v, %t: %v, %d, not %d", first(a.t.List), a.size, a.mode, first(a.wants), a.stretch, first(l), int(e), int(fault))
	}
}

// all has the sizes and the gaps together.
func all(t api.Tracks, sizes []int) int {
	sum := 0
	for i, n := range sizes {
		sum += n + t.Ahead[i]
	}
	return sum
}

// dice yields what is handed in by chance.
type dice struct{ *rand.Rand }

// size is of any number of bits, mostly of few, up to a greatest one.
func (d dice) size(most int) int {
	switch d.IntN(40) {
	case 0:
		return most
	case 1:
		return d.IntN(most + 1)
	}
	return d.IntN(min(1<<(1+d.IntN(9)), most+1))
}

func (d dice) breadth() api.Len {
	switch d.IntN(6) {
	case 0, 1:
		return px(d.size(top))
	case 2:
		return api.Len{Kind: api.LenPct, N: d.IntN(150 * api.Mille)}
	case 3:
		return least()
	case 4:
		return greatest()
	}
	return auto()
}

func (d dice) track() api.Track {
	switch d.IntN(6) {
	case 0:
		return flexible([]int{0, 1, 300, 500, 999, 1000, 1000, 1000, 2000, d.size(api.MaxMille)}[d.IntN(10)])
	case 1:
		return between(d.breadth(), fr(d.IntN(3000)))
	case 2:
		if x := d.breadth(); x.Kind == api.LenPx || x.Kind == api.LenPct {
			return fit(x)
		}
	case 3:
		return between(d.breadth(), d.breadth())
	}
	return one(d.breadth())
}

func (d dice) tracks() api.Tracks {
	t := api.Tracks{Low: -d.IntN(3)}
	gap, some := d.size(top)/4*d.IntN(2), false
	for range d.IntN(8) {
		gone, ahead := d.IntN(7) == 0, 0
		if some && !gone {
			ahead = gap
		}
		some = some || !gone
		t.List, t.Gone, t.Ahead = append(t.List, d.track()), append(t.Gone, gone), append(t.Ahead, ahead)
	}
	return t
}

func (d dice) wants(tracks int) []api.Want {
	var l []api.Want
	for range d.IntN(6) {
		if tracks == 0 {
			break
		}
		from, sizes := d.IntN(tracks), []int{d.size(top), d.size(top), d.size(top)}
		if d.IntN(4) > 0 {
			slices.Sort(sizes)
		}
		l = append(l, want(from, from+1+d.IntN(min(tracks-from, 3)), sizes[0], sizes[1], sizes[2]))
	}
	return l
}

func (d dice) asked() asked {
	t := d.tracks()
	return asked{t: t, size: d.size(top), mode: []int{plain, plain, minimi, maximi}[d.IntN(4)], wants: d.wants(len(t.List)), stretch: d.IntN(2) == 0}
}
