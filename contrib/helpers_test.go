package contrib_test

import (
	"math"
	"math/big"
	"math/rand/v2"
	"testing"

	"parterre/api"
	"parterre/contrib"
	"parterre/style"
)

const (
	top = api.MaxPx
	inf = api.Inf

	fix  = api.SizeFixed
	auto = api.SizeAuto
	cmin = api.SizeMin
	cmax = api.SizeMax
	fr   = api.SizeFr
)

func px(n int) api.Len   { return api.Len{Kind: api.LenPx, N: n} }
func pct(n int) api.Len  { return api.Len{Kind: api.LenPct, N: n * 1000} }
func word(k int) api.Len { return api.Len{Kind: k} }

// track is one of no greatest size.
func track(least, most int) api.Sizing {
	t := api.Sizing{Min: least, Max: most, Limit: inf}
	if most == fr {
		t.Fr = 1000
	}
	return t
}

// capped is one of which the greatest size is so much.
func capped(least, limit int) api.Sizing { return api.Sizing{Min: least, Max: fix, Limit: limit} }

func fixed(n int) api.Sizing { return api.Sizing{Min: fix, Max: fix, Base: n, Limit: n} }

// fit is one that fits.
func fit(most, base int) api.Sizing {
	return api.Sizing{Min: auto, Max: cmax, Fit: true, Cap: most, Base: base, Limit: inf}
}

// child is what Want is handed.
type child struct {
	s        api.Style
	rows     bool
	c        api.Content
	t        []api.Sizing
	ahead    []int
	from, to int
}

// in is a child without any property, of Min 30 and Max 70, in all of some tracks without gaps.
func in(t ...api.Sizing) child {
	return child{s: style.Default(), c: api.Content{Min: 30, Max: 70}, t: t, ahead: make([]int, len(t)), to: len(t)}
}

func (x child) with(change func(x *child)) child {
	change(&x)
	return x
}

// sized is a child of such a size, least size and greatest size.
func (x child) sized(size, least, most api.Len) child {
	x.s.Width, x.s.MinWidth, x.s.MaxWidth = size, least, most
	return x
}

// apart is a child of such margins to the left and to the right.
func (x child) apart(left, right api.Len) child {
	x.s.Margin[3], x.s.Margin[1] = left, right
	return x
}

// turned is a child of which what stood along the row stands along the column.
func (x child) turned() child {
	x.rows = !x.rows
	x.s.Width, x.s.Height = x.s.Height, x.s.Width
	x.s.MinWidth, x.s.MinHeight = x.s.MinHeight, x.s.MinWidth
	x.s.MaxWidth, x.s.MaxHeight = x.s.MaxHeight, x.s.MaxWidth
	m := x.s.Margin
	x.s.Margin = [4]api.Len{m[3], m[2], m[1], m[0]}
	return x
}

func (x child) want() (api.Want, api.Errno) {
	return contrib.Want(x.s, x.rows, x.c, x.t, x.ahead, x.from, x.to)
}

// is holds what Want tells, along both axes.
func (x child) is(t *testing.T, least, min, max int) {
	t.Helper()
	should := api.Want{From: x.from, To: x.to, Least: least, Min: min, Max: max}
	for _, x := range []child{x, x.turned()} {
		if w, e := x.want(); w != should || e != api.OK {
			t.Errorf("%v, %v: %v, %d, not %v", x.rows, first(x.t), w, int(e), should)
		}
	}
}

// fails holds the error that Want tells, along both axes.
func (x child) fails(t *testing.T, fault api.Errno) {
	t.Helper()
	for _, x := range []child{x, x.turned()} {
		if w, e := x.want(); w != (api.Want{}) || e != fault {
			t.Errorf("%v, %v, %v, from %d to %d: %v, %d, not %d", x.rows, x.c, first(x.t), x.from, x.to, w, int(e), int(fault))
		}
	}
}

// first is as much of a list as one can read.
func first[T any](l []T) []T { return l[:min(len(l), 9)] }

// noSizes are numbers that are no size.
func noSizes() []int { return []int{math.MinInt, -top, -1, top + 1, math.MaxInt} }

// walk tells what a child wants as the document says it, with numbers of any size; false, if one is no length.
func (x child) walk() (api.Want, bool) {
	size, low, high, a, b := x.s.Width, x.s.MinWidth, x.s.MaxWidth, x.s.Margin[3], x.s.Margin[1]
	if x.rows {
		size, low, high, a, b = x.s.Height, x.s.MinHeight, x.s.MaxHeight, x.s.Margin[0], x.s.Margin[2]
	}
	outer := 0
	for _, m := range []api.Len{a, b} {
		if m.Kind == api.LenPx {
			outer += m.N
		}
	}
	clamped := func(n int) int {
		if h, is := x.limit(high); is && h < n {
			n = h
		}
		if l, is := x.limit(low); is && l > n {
			n = l
		}
		return n
	}
	var three [3]int
	if n, is := x.limit(size); is {
		three = [3]int{clamped(n), clamped(n), clamped(n)}
	} else {
		three = [3]int{0, clamped(x.c.Min), clamped(x.c.Max)}
		if low != word(api.LenAuto) {
			three[0], _ = x.limit(low)
		} else if x.auto() {
			three[0] = x.least(three[1], outer)
		}
	}
	w := api.Want{From: x.from, To: x.to}
	for i, n := range []*int{&w.Least, &w.Min, &w.Max} {
		if *n = max(three[i]+outer, 0); *n > top {
			return api.Want{}, false
		}
	}
	return w, true
}

func (x child) limit(v api.Len) (int, bool) {
	switch v.Kind {
	case api.LenPx:
		return v.N, true
	case api.LenMin:
		return x.c.Min, true
	case api.LenMax:
		return x.c.Max, true
	}
	return 0, false
}

func (x child) auto() bool {
	some, flexible := false, false
	for i := x.from; i < x.to; i++ {
		some = some || x.t[i].Min == auto
		flexible = flexible || x.t[i].Max == fr
	}
	return some && (x.to == x.from+1 || !flexible)
}

func (x child) least(n, outer int) int {
	room := new(big.Int)
	add := func(n int) { room.Add(room, big.NewInt(int64(n))) }
	for i := x.from; i < x.to; i++ {
		switch {
		case x.t[i].Fit:
			add(max(x.t[i].Cap, x.t[i].Base))
		case x.t[i].Max == fix:
			add(x.t[i].Limit)
		default:
			return n
		}
		if i > x.from {
			add(x.ahead[i])
		}
	}
	add(-outer)
	if room.Sign() < 0 {
		return 0
	}
	if room.Cmp(big.NewInt(int64(n))) < 0 {
		return int(room.Int64())
	}
	return n
}

// dice yields what is handed in by chance.
type dice struct{ *rand.Rand }

// number is mostly small, so that sizes meet, and now and then as great as it may be.
func (d dice) number(most int) int {
	switch d.IntN(60) {
	case 0:
		return most
	case 1:
		return d.IntN(most + 1)
	}
	return d.IntN(60)
}

func (d dice) track() api.Sizing {
	x := track(fix+d.IntN(4), fix+d.IntN(5))
	switch d.IntN(4) {
	case 0:
		x = fit(d.number(top), 0)
	case 1:
		x = track(auto, fix)
	}
	if d.IntN(3) == 0 {
		x.Base = d.number(inf - 1)
	}
	if x.Max == fix && d.IntN(40) > 0 || d.IntN(9) == 0 {
		x.Limit = min(x.Base+d.number(inf), inf)
	}
	return x
}

func (d dice) size(none int) api.Len {
	switch d.IntN(12) {
	case 0:
		return word(api.LenMin)
	case 1:
		return word(api.LenMax)
	case 2:
		return pct(d.IntN(200))
	case 3, 4:
		return px(d.number(top))
	}
	return word(none)
}

func (d dice) margin() api.Len {
	switch d.IntN(6) {
	case 0:
		return word(api.LenAuto)
	case 1:
		return pct(d.IntN(200) - 100)
	case 2:
		return px(-d.number(top))
	case 3:
		return px(d.number(top))
	}
	return px(0)
}

func (d dice) child() child {
	x := in()
	for range 1 + d.IntN(5) {
		x.t, x.ahead = append(x.t, d.track()), append(x.ahead, d.number(top))
	}
	x.from = d.IntN(len(x.t))
	x.to = x.from + 1 + d.IntN(len(x.t)-x.from)
	x.rows = d.IntN(2) == 0
	x.c = api.Content{Min: d.number(top), Max: d.number(top)}
	x.s.Width, x.s.Height = d.size(api.LenAuto), d.size(api.LenAuto)
	x.s.MinWidth, x.s.MinHeight = d.size(api.LenAuto), d.size(api.LenAuto)
	x.s.MaxWidth, x.s.MaxHeight = d.size(api.LenNone), d.size(api.LenNone)
	for i := range x.s.Margin {
		x.s.Margin[i] = d.margin()
	}
	return x
}
