package contrib_test

import (
	"math/rand/v2"
	"slices"
	"testing"

	"parterre/api"
	"parterre/contrib"
)

func TestByChance(t *testing.T) { // P30.2, and P30.3
	d := dice{rand.New(rand.NewPCG(30, 1))}
	var over, ordered int
	for range 200000 {
		x := d.child()
		should, is := x.walk()
		fault := api.OK
		if !is {
			fault = api.ErrOver
			over++
		}
		w, e := x.want()
		if w != should || e != fault {
			t.Fatal(x, w, int(e), should, int(fault))
		}
		least := x.s.MinWidth
		if x.rows {
			least = x.s.MinHeight
		}
		if is && least == word(api.LenAuto) && x.c.Min <= x.c.Max { // P30.3
			if ordered++; w.Least > w.Min || w.Min > w.Max {
				t.Fatal(x, w)
			}
		}
	}
	if over < 2000 || over > 100000 || ordered < 20000 {
		t.Error(over, ordered)
	}
}

func TestOuterByChance(t *testing.T) { // P30.1: along the other axis, what the turned style has
	d := dice{rand.New(rand.NewPCG(30, 2))}
	for range 20000 {
		x := d.child()
		y := x.turned()
		if a, b := contrib.Outer(x.s, x.rows), contrib.Outer(y.s, y.rows); a != b {
			t.Fatal(x.s.Margin, x.rows, a, b)
		}
	}
}

func TestMany(t *testing.T) { // P30.2: as many tracks as there may be, and as many children
	const most = 4 * api.MaxLine
	x := in(slices.Repeat([]api.Sizing{capped(auto, 1)}, most)...)
	x.c = api.Content{Min: top, Max: top}
	x.is(t, most, top, top)
	x.with(func(x *child) { x.ahead = slices.Repeat([]int{2}, most) }).is(t, 3*most-2, top, top)
	y := in(slices.Repeat([]api.Sizing{capped(auto, inf-1)}, most)...)
	y.is(t, 30, 30, 70)
	for from := range 500 {
		x.with(func(x *child) { x.from, x.to = from, from+9 }).is(t, 9, top, top)
	}
}
