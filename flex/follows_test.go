package flex_test

import (
	"math/rand/v2"
	"slices"
	"testing"

	"parterre/api"
	"parterre/base"
	"parterre/flex"
)

// changed holds that nothing but the Base and the Limit of flexible tracks is changed, and that these are no less than they were (P26.6).
func changed(t *testing.T, s, l []api.Sizing) {
	t.Helper()
	if len(l) != len(s) {
		t.Fatal(s, l)
	}
	for i, x := range l {
		was := s[i]
		if x.Base < was.Base || x.Max != fr && x.Base != was.Base || !base.Good(x) {
			t.Fatal(i, s, l)
		}
		if was.Base, was.Limit = x.Base, max(was.Limit, x.Base); was != x {
			t.Fatal(i, s, l)
		}
	}
}

func sum(s []api.Sizing, ahead []int) int {
	n := 0
	for i, x := range s {
		n += x.Base + ahead[i]
	}
	return n
}

func TestUnitByChance(t *testing.T) { // P26.1
	d := dice{rand.New(rand.NewPCG(26, 1))}
	for range 60000 {
		s, space := d.tracks(), d.size(top)
		if n, should := flex.Unit(s, space), walked(s, space).unit(); n != should {
			t.Fatal(s, space, n, should)
		}
	}
}

func TestFillByChance(t *testing.T) { // P26.2, P26.4 to P26.6
	d := dice{rand.New(rand.NewPCG(26, 2))}
	for range 60000 {
		s, size := d.tracks(), d.size(top)
		ahead := d.gaps(len(s))
		l := flex.Fill(s, ahead, size)
		if should := filled(s, ahead, size); !slices.Equal(l, should) {
			t.Fatal(s, ahead, size, l, should)
		}
		changed(t, s, l)
		k := walked(s, size-sum(make([]api.Sizing, len(s)), ahead))
		if all := sum(l, ahead); k.sum >= 1000 && k.left > 0 && all != size || all > max(size, sum(s, ahead)) { // P26.4
			t.Fatal(s, ahead, size, l)
		}
		for i, x := range l { // P26.5
			for j, y := range l {
				if x.Max == fr && y.Max == fr && !k.stiff[i] && !k.stiff[j] && x.Fr == y.Fr && x.Base > y.Base+1 {
					t.Fatal(s, ahead, size, l)
				}
			}
		}
	}
}

func TestGrowByChance(t *testing.T) { // P26.3, P26.6
	d := dice{rand.New(rand.NewPCG(26, 3))}
	for range 60000 {
		s := d.tracks()
		ahead, wants := d.gaps(len(s)), d.wants(len(s))
		l := flex.Grow(s, ahead, wants)
		if should := flexed(s, ahead, wants); !slices.Equal(l, should) {
			t.Fatal(s, ahead, wants, l, should)
		}
		changed(t, s, l)
		d.Shuffle(len(wants), func(i, k int) { wants[i], wants[k] = wants[k], wants[i] })
		if other := flex.Grow(s, ahead, wants); !slices.Equal(l, other) {
			t.Fatal(s, ahead, wants, l, other)
		}
	}
}

// oneByOne are tracks of less than a whole fr together, of which each lets the next one be stiff.
func oneByOne(count int) ([]api.Sizing, int) {
	s := make([]api.Sizing, count)
	left := top
	for i := range s {
		s[i] = flexible(1, left/1000+1)
		left -= left/1000 + 1
	}
	return s, top
}

func TestOneByOne(t *testing.T) { // P26.1, P26.2: as many rounds as there are tracks
	s, space := oneByOne(900)
	if n := flex.Unit(s, space); n != 0 {
		t.Error(n)
	}
	s[600].Base /= 2 // with this one the walk ends
	slices.Reverse(s)
	k := walked(s, space)
	count := 0
	for _, is := range k.stiff {
		if is {
			count++
		}
	}
	if n := flex.Unit(s, space); n != k.unit() || count != 600 {
		t.Error(n, k.unit(), count)
	}
	hold(t, flex.Fill(s, make([]int, 900), space), filled(s, make([]int, 900), space))
}

func TestMost(t *testing.T) { // P26.1 to P26.3: as many wants as there may be, of as many tracks as a grid may have: it ends soon
	s := make([]api.Sizing, 4*api.MaxLine)
	for i := range s {
		if s[i] = flexible(1+i%3000, i*7919%4001); i%9 == 0 {
			s[i] = px(i % 100)
		}
	}
	wants := make([]api.Want, api.MaxNodes)
	for i := range wants {
		wants[i] = want(i%64, len(s)-i/64, top-i)
	}
	ahead := make([]int, len(s))
	changed(t, s, flex.Grow(s, ahead, wants))
	changed(t, s, flex.Fill(s, ahead, 40000000))
	if n := flex.Unit(s, 40000000); n != walked(s, 40000000).unit() {
		t.Error(n)
	}
}
