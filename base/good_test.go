package base_test

import (
	"math"
	"math/rand/v2"
	"testing"

	"parterre/api"
	"parterre/base"
)

// sizings are tracks that may be, one of each kind.
func sizings() []api.Sizing {
	var l []api.Sizing
	for a := api.SizeFixed; a <= api.SizeMax; a++ {
		for b := api.SizeFixed; b <= api.SizeFr; b++ {
			l = append(l, api.Sizing{Min: a, Max: b}, api.Sizing{Min: a, Max: b, Base: 5, Limit: 5}, api.Sizing{Min: a, Max: b, Base: 5, Limit: 6}, api.Sizing{Min: a, Max: b, Base: 5, Limit: api.Inf}, api.Sizing{Min: a, Max: b, Base: api.Inf - 1, Limit: api.Inf - 1}, api.Sizing{Min: a, Max: b, Base: api.Inf - 1, Limit: api.Inf})
		}
		for _, n := range []int{1, api.Mille, api.MaxMille} {
			l = append(l, api.Sizing{Min: a, Max: api.SizeFr, Fr: n, Limit: 7})
		}
	}
	for _, n := range []int{0, 1, api.MaxPx} {
		l = append(l, api.Sizing{Min: api.SizeAuto, Max: api.SizeMax, Fit: true, Cap: n, Base: 3, Limit: api.Inf}, api.Sizing{Min: api.SizeAuto, Max: api.SizeMax, Fit: true, Cap: n, Base: 3, Limit: 3})
	}
	return l
}

func TestGood(t *testing.T) { // P22.3
	for _, s := range sizings() {
		if !base.Good(s) {
			t.Error(s)
		}
	}
}

func TestGoodNot(t *testing.T) { // P22.3: each change of one field lets none be
	not := func(s api.Sizing) {
		t.Helper()
		if base.Good(s) {
			t.Error(s)
		}
	}
	not(api.Sizing{})
	for _, s := range sizings() {
		for _, n := range []int{math.MinInt, -1, 0, 6, math.MaxInt} {
			x, y := s, s
			x.Min, y.Max = n, n
			not(x)
			not(y)
		}
		x := s
		x.Min = api.SizeFr
		not(x)
		for _, n := range []int{math.MinInt, -1, api.MaxMille + 1, math.MaxInt} {
			x = s
			x.Fr = n
			not(x)
		}
		for _, n := range []int{math.MinInt, -1, api.MaxPx + 1, math.MaxInt} {
			x = s
			x.Cap = n
			not(x)
		}
		for _, n := range []int{math.MinInt, -1, api.Inf, api.Inf + 1, math.MaxInt} {
			x = s
			x.Base = n
			not(x)
			x.Limit = max(n, s.Limit)
			not(x)
			x.Limit = api.Inf
			not(x)
		}
		for _, n := range []int{math.MinInt, -1, s.Base - 1, api.Inf + 1, math.MaxInt} {
			x = s
			x.Limit = n
			not(x)
		}
		if x = s; s.Max != api.SizeFr {
			x.Fr = 1
			not(x)
		}
		if x = s; !s.Fit {
			x.Cap = 1
			not(x)
			if x.Fit = true; s.Min != api.SizeAuto || s.Max != api.SizeMax {
				not(x)
				x.Cap = 0
				not(x)
			}
		}
	}
}

func TestRaise(t *testing.T) { // P22.3: of what is not Good, too; nothing but Limit is changed
	numbers := []int{math.MinInt, -5, -1, 0, 1, 5, api.Inf - 1, api.Inf, math.MaxInt}
	for _, a := range numbers {
		for _, b := range numbers {
			for _, s := range append(sizings(), api.Sizing{}, api.Sizing{Min: -3, Max: 99, Fr: -1, Fit: true, Cap: -7}) {
				s.Base, s.Limit = a, b
				want := s
				if a > b {
					want.Limit = a
				}
				if x := base.Raise(s); x != want {
					t.Error(s, x)
				}
			}
		}
	}
}

func TestGoodByChance(t *testing.T) { // P22.4
	random := rand.New(rand.NewPCG(22, 4))
	lengths := func() api.Len {
		n := random.IntN(1 << (1 + random.IntN(31)))
		return []api.Len{px(n), px(api.MaxPx - n), pct(n % (api.MaxMille + 1)), kind(api.LenAuto), kind(api.LenMin), kind(api.LenMax)}[random.IntN(6)]
	}
	count := [2]int{}
	for range 50000 {
		x := minmax(lengths(), lengths())
		switch random.IntN(4) {
		case 0:
			x.Max = fr(random.IntN(api.MaxMille + 1))
		case 1:
			for x = fit(lengths()); x.Limit.Kind > api.LenPct || x.Limit.Kind == api.LenAuto; {
				x = fit(lengths())
			}
		}
		size, definite := random.IntN(1<<(1+random.IntN(36))), random.IntN(2) == 0
		s, e := base.Start(x, size, definite)
		all, f := base.All(list(both(px(1)), x), size, definite)
		if e != f || e != api.OK && e != api.ErrOver {
			t.Fatal(x, size, definite, int(e), int(f))
		}
		if e == api.ErrOver {
			count[1]++
			continue
		}
		count[0]++
		if !base.Good(s) || base.Raise(s) != s || all[1] != s {
			t.Fatal(x, size, definite, s, all)
		}
	}
	if count[0] < 1000 || count[1] < 100 {
		t.Error(count)
	}
}
