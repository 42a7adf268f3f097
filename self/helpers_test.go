package self_test

import (
	"math"
	"math/rand/v2"
	"testing"

	"parterre/api"
	"parterre/fixed"
	"parterre/self"
	"parterre/value"
)

const top = api.MaxPx

func px(n int) api.Len   { return api.Len{Kind: api.LenPx, N: n} }
func pct(n int) api.Len  { return api.Len{Kind: api.LenPct, N: n * 1000} }
func huge() api.Len      { return api.Len{Kind: api.LenPct, N: api.MaxMille} }
func word(k int) api.Len { return api.Len{Kind: k} }

// noSizes are numbers that are no size.
func noSizes() []int { return []int{math.MinInt, -top, -1, top + 1, math.MaxInt} }

// noMargins are margins that may not be.
func noMargins() []api.Margin {
	return []api.Margin{{N: math.MinInt}, {N: -top - 1}, {N: top + 1}, {N: math.MaxInt}, {Auto: true, N: 1}, {Auto: true, N: -1}, {Auto: true, N: top + 1}}
}

// noContents are contents that may not be.
func noContents() []api.Content {
	var l []api.Content
	for _, n := range noSizes() {
		l = append(l, api.Content{Min: n, Max: 5}, api.Content{Min: 5, Max: n}, api.Content{Min: n, Max: n})
	}
	return l
}

// box is what Used is handed.
type box struct {
	v, low, high api.Len
	area         int
	a, b         api.Margin
	c            api.Content
	stretch      bool
}

// plain is a box of no size of its own, without limits and margins.
func plain(area int, c api.Content, stretch bool) box {
	return box{v: word(api.LenAuto), low: word(api.LenAuto), high: word(api.LenNone), area: area, c: c, stretch: stretch}
}

func (x box) with(change func(x *box)) box {
	change(&x)
	return x
}

func (x box) used() (int, api.Errno) {
	return self.Used(x.v, x.low, x.high, x.area, x.a, x.b, x.c, x.stretch)
}

// is holds what Used tells.
func (x box) is(t *testing.T, want int) {
	t.Helper()
	if n, e := x.used(); n != want || e != api.OK {
		t.Errorf("%v: %d, %d, not %d", x, n, int(e), want)
	}
}

// fails holds the error that Used tells.
func (x box) fails(t *testing.T, fault api.Errno) {
	t.Helper()
	if n, e := x.used(); n != 0 || e != fault {
		t.Errorf("%v: %d, %d, not %d", x, n, int(e), int(fault))
	}
}

// walk tells a box's size as the document says it.
func (x box) walk() (int, api.Errno) {
	good := true
	for _, n := range []int{x.area, x.c.Min, x.c.Max} {
		good = good && 0 <= n && n <= top
	}
	for _, m := range []api.Margin{x.a, x.b} {
		good = good && fixed.Is(m.N) && (m.N == 0 || !m.Auto)
	}
	if !good {
		return 0, api.ErrArg
	}
	n, is, e := x.limit(x.v)
	if e != api.OK {
		return 0, e
	}
	if !is {
		n = min(max(x.area-x.a.N-x.b.N, 0), top)
		if !x.stretch || x.a.Auto || x.b.Auto {
			n = max(min(n, x.c.Max), x.c.Min)
		}
	}
	high, is, e := x.limit(x.high)
	if e != api.OK {
		return 0, e
	}
	if is && high < n {
		n = high
	}
	low, is, e := x.limit(x.low)
	if e != api.OK {
		return 0, e
	}
	if is && low > n {
		n = low
	}
	return n, api.OK
}

func (x box) limit(v api.Len) (int, bool, api.Errno) {
	switch v {
	case word(api.LenMin):
		return x.c.Min, true, api.OK
	case word(api.LenMax):
		return x.c.Max, true, api.OK
	}
	n, is, e := value.Resolve(v, x.area, true)
	return max(n, 0), is, e
}

// dice yields what is handed in by chance.
type dice struct{ *rand.Rand }

// number is mostly small, so that sizes meet, and now and then as great as it may be.
func (d dice) number() int {
	switch d.IntN(20) {
	case 0:
		return top
	case 1:
		return d.IntN(top + 1)
	}
	return d.IntN(30)
}

func (d dice) length() int {
	if d.IntN(3) == 0 {
		return -d.number()
	}
	return d.number()
}

func (d dice) margin() api.Margin {
	switch d.IntN(4) {
	case 0:
		return api.Margin{Auto: true}
	case 1:
		return api.Margin{}
	}
	return api.Margin{N: d.length()}
}

// size is one of those that have a length, or, mostly, one that has none.
func (d dice) size(none int) api.Len {
	switch d.IntN(9) {
	case 0:
		return word(api.LenMin)
	case 1:
		return word(api.LenMax)
	case 2:
		return api.Len{Kind: api.LenPct, N: d.IntN(300000) - 100000}
	case 3:
		return px(d.length())
	case 4:
		if d.IntN(9) == 0 {
			return huge()
		}
	}
	return word(none)
}

func (d dice) box() box {
	x := box{d.size(api.LenAuto), d.size(api.LenAuto), d.size(api.LenNone), d.number(), d.margin(), d.margin(), api.Content{Min: d.number(), Max: d.number()}, d.IntN(2) == 0}
	switch d.IntN(40) {
	case 0:
		x.area = noSizes()[d.IntN(5)]
	case 1:
		x.a = noMargins()[d.IntN(7)]
	case 2:
		x.b = noMargins()[d.IntN(7)]
	case 3:
		x.c = noContents()[d.IntN(15)]
	}
	return x
}
