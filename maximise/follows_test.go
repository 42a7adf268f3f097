package maximise_test

import (
	"math/big"
	"math/rand/v2"
	"slices"
	"testing"

	"parterre/api"
	"parterre/base"
	"parterre/fixed"
	"parterre/maximise"
	"parterre/spread"
)

// given tells how much more tracks have than they had, of which nothing else may be changed but the Limit.
func given(t *testing.T, s, got []api.Sizing) []int {
	t.Helper()
	if len(got) != len(s) {
		t.Fatal(s, got)
	}
	l := make([]int, len(s))
	for i, x := range got {
		l[i] = x.Base - s[i].Base
		if l[i] < 0 || to(x, s[i].Base, s[i].Limit) != s[i] || x.Limit != max(s[i].Limit, x.Base) {
			t.Fatal(i, s, got)
		}
	}
	return l
}

func sum(l []int) int {
	n := 0
	for _, x := range l {
		n += x
	}
	return n
}

func TestTotalByChance(t *testing.T) { // P25.1
	d := dice{rand.New(rand.NewPCG(25, 1))}
	for range 20000 {
		s := d.tracks()
		ahead := make([]int, len(s))
		n := new(big.Int)
		for i, x := range s {
			ahead[i] = d.size(top)
			n.Add(n, big.NewInt(int64(x.Base)))
			n.Add(n, big.NewInt(int64(ahead[i])))
		}
		got, e := maximise.Total(s, ahead)
		if over := n.Cmp(big.NewInt(top)) > 0; over && (got != 0 || e != api.ErrOver) || !over && (int64(got) != n.Int64() || e != api.OK) {
			t.Fatal(s, ahead, got, int(e))
		}
	}
}

func TestGrowByChance(t *testing.T) { // P25.2, P25.4
	d := dice{rand.New(rand.NewPCG(25, 2))}
	for range 30000 {
		s, free := d.tracks(), d.size(top)
		room := make([]int, len(s))
		for i, x := range s {
			room[i] = x.Limit - x.Base
		}
		got := maximise.Grow(s, free)
		l := given(t, s, got)
		if !slices.Equal(l, spread.Up(free, room)) {
			t.Fatal(s, free, got)
		}
		all := true
		for i, x := range got {
			all = all && x.Base == x.Limit
			if x.Base > x.Limit || x.Limit != s[i].Limit {
				t.Fatal(s, free, got)
			}
		}
		if sum(l) != free && !all {
			t.Fatal(s, free, got)
		}
	}
}

func TestFullByChance(t *testing.T) { // P25.2
	d := dice{rand.New(rand.NewPCG(25, 3))}
	for range 20000 {
		s := d.tracks()
		got := maximise.Full(s)
		given(t, s, got)
		for i, x := range got {
			want := s[i].Base
			if s[i].Limit != inf {
				want = s[i].Limit
			}
			if x.Base != want || !base.Good(x) {
				t.Fatal(s, got)
			}
		}
	}
}

func TestStretchByChance(t *testing.T) { // P25.3, P25.5
	d := dice{rand.New(rand.NewPCG(25, 5))}
	for range 30000 {
		s, free := d.tracks(), d.size(top)
		l := given(t, s, maximise.Stretch(s, free))
		var parts []int
		for i, x := range s {
			if x.Max == auto {
				parts = append(parts, l[i])
			} else if l[i] != 0 {
				t.Fatal(s, free, l)
			}
		}
		if !slices.Equal(parts, fixed.Split(free, len(parts))) || len(parts) > 0 && sum(parts) != free {
			t.Fatal(s, free, l)
		}
	}
}
