package content_test

import (
	"math"
	"math/big"
	"math/rand/v2"
	"slices"
	"testing"

	"parterre/api"
	"parterre/content"
)

const (
	top  = api.MaxPx
	most = 4 * api.MaxLine
)

// row is so many tracks with a gap between each two.
func row(gap, count int) api.Tracks {
	auto := api.Len{Kind: api.LenAuto}
	t := api.Tracks{List: slices.Repeat([]api.Track{{Min: auto, Max: auto}}, count), Gone: make([]bool, count), Ahead: make([]int, count)}
	for i := 1; i < count; i++ {
		t.Ahead[i] = gap
	}
	return t
}

// without is tracks of which some are gone.
func without(t api.Tracks, places ...int) api.Tracks {
	t.Gone, t.Ahead = slices.Clone(t.Gone), slices.Clone(t.Ahead)
	for _, i := range places {
		t.Gone[i], t.Ahead[i] = true, 0
	}
	return t
}

// from is tracks that begin at a place.
func from(low int, t api.Tracks) api.Tracks {
	t.Low = low
	return t
}

// noSizes are numbers that are no size.
func noSizes() []int { return []int{math.MinInt, -top, -1, top + 1, math.MaxInt} }

// wrongs are three tracks each, that may not be handed in.
func wrongs() []api.Tracks {
	var l []api.Tracks
	change := func(f func(t *api.Tracks)) {
		t := row(3, 3)
		f(&t)
		l = append(l, t)
	}
	change(func(t *api.Tracks) { t.Low = 1 })
	change(func(t *api.Tracks) { t.Low = -api.MaxLine - 1 })
	change(func(t *api.Tracks) { t.Gone = t.Gone[:2] })
	change(func(t *api.Tracks) { t.Gone = append(t.Gone, false) })
	change(func(t *api.Tracks) { t.Ahead = nil })
	change(func(t *api.Tracks) { t.Ahead[0] = 1 })
	change(func(t *api.Tracks) { t.Ahead[1] = -1 })
	change(func(t *api.Tracks) { t.Gone[2] = true })
	change(func(t *api.Tracks) { t.List[1] = api.Track{} })
	return l
}

// first is as much of a list as one can read.
func first[T any](l []T) []T { return l[:min(len(l), 9)] }

// starts holds what Starts tells.
func starts(t *testing.T, x api.Tracks, sizes []int, size, align int, want ...int) {
	t.Helper()
	if l, e := content.Starts(x, sizes, size, align); e != api.OK || !slices.Equal(l, want) {
		t.Errorf("%v, %v, %v in %d, aligned %d: %v, %d, not %v", first(x.Ahead), first(x.Gone), first(sizes), size, align, first(l), int(e), first(want))
	}
}

// startsFails holds the error that Starts tells.
func startsFails(t *testing.T, x api.Tracks, sizes []int, size, align int, fault api.Errno) {
	t.Helper()
	if l, e := content.Starts(x, sizes, size, align); e != fault || len(l) != 0 {
		t.Errorf("%v, %v, %v in %d, aligned %d: %v, %d, not %d", first(x.Ahead), first(x.Gone), first(sizes), size, align, first(l), int(e), int(fault))
	}
}

// area holds what Area tells.
func area(t *testing.T, x api.Tracks, starts, sizes []int, from, to, at, size int, fault api.Errno) {
	t.Helper()
	if a, n, e := content.Area(x, starts, sizes, from, to); a != at || n != size || e != fault {
		t.Errorf("%d, %v, %v from %d to %d: %d, %d, %d, not %d, %d, %d", x.Low, first(starts), first(sizes), from, to, a, n, int(e), at, size, int(fault))
	}
}

// walk tells where tracks begin, one by one, as the document says it, with numbers of any size.
func walk(x api.Tracks, sizes []int, size, align int) []int {
	free, n := size, 0
	for i, s := range sizes {
		free -= s + x.Ahead[i]
		if !x.Gone[i] {
			n++
		}
	}
	down := func(a, b, by int) int { // a product, by a number, rounded down
		p := new(big.Int).Mul(big.NewInt(int64(a)), big.NewInt(int64(b)))
		m := new(big.Int)
		p.DivMod(p, big.NewInt(int64(by)), m)
		return int(p.Int64())
	}
	l := make([]int, len(sizes))
	for i := range l {
		k := -1
		for j := 0; j <= i; j++ {
			if !x.Gone[j] {
				k++
			}
			l[i] += x.Ahead[j]
			if j < i {
				l[i] += sizes[j]
			}
		}
		k = max(k, 0)
		switch {
		case align == api.AlignEnd:
			l[i] += free
		case align == api.AlignCenter:
			l[i] += down(free, 1, 2)
		case free <= 0 || n == 0:
		case align == api.AlignBetween && n > 1:
			l[i] += down(free, k, n-1)
		case align == api.AlignAround:
			l[i] += down(free, 2*k+1, 2*n)
		case align == api.AlignEvenly:
			l[i] += down(free, k+1, n+1)
		}
	}
	return l
}

// dice yields what is handed in by chance.
type dice struct{ *rand.Rand }

func (d dice) size(most int) int {
	switch d.IntN(20) {
	case 0:
		return most
	case 1:
		return d.IntN(most + 1)
	}
	return d.IntN(min(1<<(1+d.IntN(9)), most+1))
}

// tracks have sizes, too; those that are gone mostly have none.
func (d dice) tracks() (api.Tracks, []int) {
	x := from(-d.IntN(4), row(0, d.IntN(9)))
	gap, some, often := d.size(top/8), false, d.IntN(9)
	sizes := make([]int, len(x.List))
	for i := range sizes {
		x.Gone[i] = d.IntN(10) < often
		if some && !x.Gone[i] {
			x.Ahead[i] = gap
		}
		some = some || !x.Gone[i]
		if !x.Gone[i] || d.IntN(9) == 0 {
			sizes[i] = d.size(top)
		}
	}
	return x, sizes
}
