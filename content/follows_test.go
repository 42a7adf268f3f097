package content_test

import (
	"math/big"
	"math/rand/v2"
	"slices"
	"testing"

	"parterre/api"
	"parterre/content"
	"parterre/tracks"
)

func TestStartsByChance(t *testing.T) { // P28.1
	d := dice{rand.New(rand.NewPCG(28, 1))}
	for range 60000 {
		x, sizes := d.tracks()
		size, align := d.size(top), api.AlignAuto+d.IntN(9)
		_, fault := tracks.Sum(x, sizes)
		if align == api.AlignAuto {
			fault = api.ErrArg
		}
		var want []int
		if fault == api.OK {
			want = walk(x, sizes, size, align)
		}
		if l, e := content.Starts(x, sizes, size, align); e != fault || !slices.Equal(l, want) {
			t.Fatal(x, sizes, size, align, l, int(e), want, int(fault))
		}
	}
}

func TestFollows(t *testing.T) { // P28.3 to P28.5
	d := dice{rand.New(rand.NewPCG(28, 3))}
	var seen [3]int
	for range 60000 {
		x, sizes := d.tracks()
		size, align := d.size(top), normal+d.IntN(8)
		sum, _ := tracks.Sum(x, sizes)
		l, e := content.Starts(x, sizes, size, align)
		if e != api.OK || len(l) == 0 {
			continue
		}
		last := len(l) - 1
		if size >= sum { // P28.3
			if seen[0]++; slices.Min(l) < 0 || l[last]+sizes[last] > size {
				t.Fatal(x, sizes, size, align, l)
			}
		}
		var added []int
		end := 0
		for i := range l {
			if i > 0 { // P28.4
				if seen[1]++; l[i] < l[i-1]+sizes[i-1]+x.Ahead[i] {
					t.Fatal(x, sizes, size, align, l)
				}
			}
			if !x.Gone[i] {
				added = append(added, l[i]-end-x.Ahead[i])
			}
			end += x.Ahead[i] + sizes[i]
		}
		if align >= between { // P28.5
			seen[2]++
			even(t, added)
		}
	}
	if slices.Min(seen[:]) < 10000 {
		t.Error(seen)
	}
}

// even holds that what stands between each two differs by one at most; handed is what is added in all up to each track.
func even(t *testing.T, added []int) {
	t.Helper()
	var apart []int
	for i := 1; i < len(added); i++ {
		apart = append(apart, added[i]-added[i-1])
	}
	if len(apart) > 0 && slices.Max(apart) > slices.Min(apart)+1 {
		t.Fatal(added)
	}
}

func TestAreaByChance(t *testing.T) { // P28.2
	d := dice{rand.New(rand.NewPCG(28, 2))}
	anywhere := func() int {
		if d.IntN(3) == 0 {
			return int(d.Uint64())
		}
		return d.IntN(6*top) - 3*top
	}
	over := 0
	for range 60000 {
		x, sizes := d.tracks()
		if len(sizes) == 0 {
			continue
		}
		begins := make([]int, len(sizes))
		for i := range begins {
			begins[i] = anywhere()
		}
		i := d.IntN(len(sizes))
		j := i + d.IntN(len(sizes)-i)
		size := big.NewInt(int64(begins[j]))
		size.Sub(size.Add(size, big.NewInt(int64(sizes[j]))), big.NewInt(int64(begins[i])))
		at, n, fault := begins[i], int(size.Int64()), api.OK
		if size.CmpAbs(big.NewInt(top)) > 0 {
			at, n, fault = 0, 0, api.ErrOver
			over++
		}
		area(t, x, begins, sizes, x.Low+i, x.Low+j+1, at, n, fault)
	}
	if over < 10000 || over > 50000 {
		t.Error(over)
	}
}
