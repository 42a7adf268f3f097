package self_test

import (
	"math/rand/v2"
	"testing"

	"parterre/api"
	"parterre/self"
)

func TestUsedByChance(t *testing.T) { // P29.3
	d := dice{rand.New(rand.NewPCG(29, 1))}
	seen := map[api.Errno]int{}
	for range 300000 {
		x := d.box()
		want, fault := x.walk()
		seen[fault]++
		if n, e := x.used(); n != want || e != fault {
			t.Fatal(x, n, int(e), want, int(fault))
		}
	}
	if seen[api.OK] < 200000 || seen[api.ErrArg] < 10000 || seen[api.ErrOver] < 100 {
		t.Error(seen)
	}
}

func TestClampByChance(t *testing.T) { // P29.2: what Used clamps is what Clamp tells
	d := dice{rand.New(rand.NewPCG(29, 2))}
	for range 100000 {
		x := d.box()
		n := d.number()
		x.v, x.a, x.b = px(n), api.Margin{}, api.Margin{}
		want, fault := x.walk()
		if n, e := self.Clamp(n, x.low, x.high, x.area, true, x.c); n != want || e != fault {
			t.Fatal(x, n, int(e), want, int(fault))
		}
	}
}

func TestFills(t *testing.T) { // P29.5
	d := dice{rand.New(rand.NewPCG(29, 5))}
	seen := 0
	for range 100000 {
		x := plain(d.number(), api.Content{Min: d.number(), Max: d.number()}, true)
		x.a.N, x.b.N = d.length(), d.length()
		n, e := x.used()
		if room := x.area - x.a.N - x.b.N; room < 0 || room > top {
			continue
		}
		seen++
		if e != api.OK || x.a.N+n+x.b.N != x.area {
			t.Fatal(x, n, int(e))
		}
		for align := api.AlignAuto; align <= api.AlignEvenly; align++ {
			if at := self.Place(x.area, n, x.a, x.b, align); at != x.a.N {
				t.Fatal(x, n, align, at)
			}
		}
	}
	if seen < 40000 {
		t.Error(seen)
	}
}

func TestWithin(t *testing.T) { // P29.6
	d := dice{rand.New(rand.NewPCG(29, 6))}
	seen := 0
	for range 100000 {
		area, size, a, b := d.number(), d.number(), d.margin(), d.margin()
		if size > area-a.N-b.N {
			continue
		}
		seen++
		for align := api.AlignAuto; align <= api.AlignEvenly; align++ {
			if at := self.Place(area, size, a, b, align); at < a.N || at+size > area-b.N {
				t.Fatal(area, size, a, b, align, at)
			}
		}
	}
	if seen < 30000 {
		t.Error(seen)
	}
}
