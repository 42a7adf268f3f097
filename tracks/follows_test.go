package tracks_test

import (
	"math/rand/v2"
	"slices"
	"testing"

	"parterre/api"
	"parterre/base"
	"parterre/flex"
	"parterre/intrinsic"
	"parterre/maximise"
	"parterre/tracks"
)

// walk goes the document's steps one by one, as far as no error comes.
func (a asked) walk() ([]api.Sizing, api.Errno) {
	s, e := base.All(a.t, max(a.size, 0), a.mode == plain)
	if e != api.OK {
		return nil, e
	}
	if s, e = intrinsic.Size(s, a.t.Ahead, a.wants, a.mode); e != api.OK {
		return nil, e
	}
	free := func() int {
		total, fault := maximise.Total(s, a.t.Ahead)
		e = max(e, fault)
		return a.size - total
	}
	switch a.mode {
	case plain:
		if n := free(); n > 0 && e == api.OK {
			s = maximise.Grow(s, n)
		}
		s = flex.Fill(s, a.t.Ahead, a.size)
		if n := free(); a.stretch && n > 0 && e == api.OK {
			s = maximise.Stretch(s, n)
		}
	case maximi:
		s = flex.Grow(maximise.Full(s), a.t.Ahead, a.wants)
	}
	free()
	return s, e
}

func TestByChance(t *testing.T) { // P27.1
	d := dice{rand.New(rand.NewPCG(27, 1))}
	faults := 0
	for range 60000 {
		a := d.asked()
		s, fault := a.walk()
		l, e := a.tell()
		if e != fault || e != api.OK && len(l) > 0 || e == api.OK && len(l) != len(s) {
			t.Fatal(a, l, int(e), s, int(fault))
		}
		for i := range l {
			if l[i] != s[i].Base {
				t.Fatal(a, l, s)
			}
		}
		if e != api.OK {
			faults++
		}
	}
	if faults < 1000 || faults > 30000 {
		t.Error(faults)
	}
}

// isFull tells whether P27.4 speaks of what is handed in.
func (a asked) isFull() bool {
	flexible, whole, open := false, true, false
	for i, x := range a.t.List {
		if !a.t.Gone[i] && x.Max.Kind == api.LenFr {
			flexible, whole = true, whole && x.Max.N >= api.Mille
		}
		open = open || !a.t.Gone[i] && x.Max.Kind == api.LenAuto
	}
	return a.mode == plain && (flexible && whole || a.stretch && open)
}

// counts tells whether P27.6 speaks of a want.
func (a asked) counts(w api.Want) bool {
	if w.Least > w.Min || w.Min > w.Max {
		return false
	}
	open := false
	for i := w.From; i < w.To; i++ {
		x := a.t.List[i]
		if x.Max.Kind == api.LenFr && !a.t.Gone[i] {
			return false
		}
		fixed := a.t.Gone[i] || x.Min.Kind == api.LenPx || x.Min.Kind == api.LenPct && a.mode == plain
		open = open || !fixed
	}
	return open
}

func TestFollows(t *testing.T) { // P27.3 to P27.6, and P27.2
	d := dice{rand.New(rand.NewPCG(27, 3))}
	var seen [4]int
	for range 60000 {
		a := d.asked()
		l, e := a.tell()
		if e != api.OK {
			continue
		}
		sum, e := tracks.Sum(a.t, l)
		if sum != all(a.t, l) || e != api.OK { // P27.2
			t.Fatal(a, l, sum)
		}
		for i, x := range a.t.List {
			if a.t.Gone[i] { // P27.5
				if seen[2]++; l[i] != 0 {
					t.Fatal(a, l)
				}
			} else if x.Min == x.Max && x.Min.Kind == api.LenPx { // P27.3
				if seen[0]++; l[i] != x.Min.N {
					t.Fatal(a, l)
				}
			}
		}
		if a.isFull() { // P27.4
			if seen[1]++; sum < a.size {
				t.Fatal(a, l)
			}
		}
		for _, w := range a.wants { // P27.6
			if a.counts(w) {
				spanned := api.Tracks{Ahead: a.t.Ahead[w.From:w.To]}
				if seen[3]++; all(spanned, l[w.From:w.To])-a.t.Ahead[w.From] < w.Least {
					t.Fatal(a, l, w)
				}
			}
		}
	}
	if slices.Min(seen[:]) < 5000 {
		t.Error(seen)
	}
}

func TestTurned(t *testing.T) { // what is wanted in another order comes to the same
	d := dice{rand.New(rand.NewPCG(27, 5))}
	for range 20000 {
		a := d.asked()
		l, e := a.tell()
		a.wants = slices.Clone(a.wants)
		slices.Reverse(a.wants)
		if other, fault := a.tell(); fault != e || !slices.Equal(l, other) {
			t.Fatal(a, l, other)
		}
	}
}

func TestMost(t *testing.T) { // P27.1: as many wants as there may be, of as many tracks as there may be: it ends soon
	kinds := []api.Track{one(auto()), flexible(1000), one(px(5)), between(px(3), auto()), one(greatest()), fit(px(50)), flexible(3), one(pct(1)), one(least())}
	list := make([]api.Track, most)
	for i := range list {
		list[i] = kinds[i*i%len(kinds)]
	}
	x := row(1, list...)
	wants := make([]api.Want, api.MaxNodes)
	for i := range wants {
		wants[i] = want(i*9, i*9+1+i%7, i%50, i%90, i%1000)
	}
	for _, mode := range []int{plain, minimi, maximi} {
		a := asked{x, 50000000, mode, wants, true}
		l, e := a.tell()
		s, fault := a.walk()
		if e != api.OK || fault != api.OK || len(l) != most || l[most-1] != s[most-1].Base {
			t.Error(mode, first(l), int(e), first(s), int(fault))
		}
	}
	asked{many(most+1, one(px(1))), 5, plain, nil, true}.fails(t, api.ErrArg)
	asked{many(most, one(px(1))), 5, plain, nil, true}.gives(t, slices.Repeat([]int{1}, most)...)
}
