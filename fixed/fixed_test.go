package fixed

import (
	"math"
	"math/big"
	"slices"
	"testing"

	"parterre/api"
)

const (
	top   = api.MaxPx
	least = math.MinInt
	most  = math.MaxInt
)

// edges are the numbers at which something changes, and ordinary ones between them.
func edges() []int {
	return []int{least, least + 1, -1 << 62, -top - 1, -top, -top + 1, -1<<32 - 1, -1000, -7, -3, -2, -1, 0,
		1, 2, 3, 7, 64, 1000, 1<<32 + 1, top - 1, top, top + 1, 1 << 62, most - 1, most}
}

// chance yields numbers below n that are the same in each run.
func chance(seed uint64) func(n int) int {
	return func(n int) int {
		seed = seed*6364136223846793005 + 1442695040888963407
		return int((seed >> 20) % uint64(n))
	}
}

func bigOf(n int) *big.Int { return big.NewInt(int64(n)) }

// floor tells the quotient rounded down; big's own Div rounds otherwise below 0.
func floor(a, b *big.Int) *big.Int {
	q, m := new(big.Int).QuoRem(a, b, new(big.Int))
	if m.Sign() != 0 && m.Sign() != b.Sign() {
		q.Sub(q, big.NewInt(1))
	}
	return q
}

func TestIs(t *testing.T) { // P1.1
	for n, want := range map[int]bool{least: false, -top - 1: false, -top: true, -1: true, 0: true, 1: true, top: true, top + 1: false, most: false} {
		if Is(n) != want {
			t.Errorf("Is(%d): %t", n, !want)
		}
	}
}

func TestAddSub(t *testing.T) { // P1.1
	for _, a := range edges() {
		for _, b := range edges() {
			check := func(what string, f func(a, b int) (int, api.Errno), sum *big.Int) {
				want, fault := 0, api.OK
				switch {
				case a < -top || a > top || b < -top || b > top:
					fault = api.ErrArg
				case sum.CmpAbs(bigOf(top)) > 0:
					fault = api.ErrOver
				default:
					want = int(sum.Int64())
				}
				if n, e := f(a, b); n != want || e != fault {
					t.Errorf("%s(%d, %d): %d, %d; not %d, %d", what, a, b, n, int(e), want, int(fault))
				}
			}
			check("Add", Add, new(big.Int).Add(bigOf(a), bigOf(b)))
			check("Sub", Sub, new(big.Int).Sub(bigOf(a), bigOf(b)))
		}
	}
}

func TestSum(t *testing.T) { // P1.1
	for i, x := range []struct {
		l []int
		n int
		e api.Errno
	}{
		{nil, 0, api.OK},
		{[]int{}, 0, api.OK},
		{[]int{-5}, -5, api.OK},
		{[]int{1, 2, 3, -10}, -4, api.OK},
		{[]int{top, -top, -top, top, top}, top, api.OK},
		{[]int{top, 1, -1}, 0, api.ErrOver},
		{[]int{-top, -1, 1}, 0, api.ErrOver},
		{[]int{top + 1}, 0, api.ErrArg},
		{[]int{-top - 1}, 0, api.ErrArg},
		{[]int{least}, 0, api.ErrArg},
		{[]int{-top, top + 1}, 0, api.ErrArg},
		{[]int{top, top + 1}, 0, api.ErrArg},
		{[]int{top, 1, most}, 0, api.ErrOver},
		{[]int{1, most, top, top}, 0, api.ErrArg},
	} {
		if n, e := Sum(x.l); n != x.n || e != x.e {
			t.Errorf("%d: %d, %d", i, n, int(e))
		}
	}
}

func TestDivMod(t *testing.T) { // P1.2
	for _, x := range []struct{ a, b, q, r int }{
		{7, 2, 3, 1}, {-7, 2, -4, 1}, {7, -2, -4, -1}, {-7, -2, 3, -1}, {6, 3, 2, 0}, {-6, 3, -2, 0}, {0, -3, 0, 0},
		{5, 0, 0, 5}, {-5, 0, 0, -5}, {least, 0, 0, least}, {0, 0, 0, 0},
		{least, -1, least, 0}, {least, 1, least, 0}, {most, -1, -most, 0}, {least, most, -2, most - 1}, {most, least, -1, -1},
	} {
		if q, r := Div(x.a, x.b), Mod(x.a, x.b); q != x.q || r != x.r {
			t.Errorf("%d by %d: %d, %d", x.a, x.b, q, r)
		}
	}
	for _, a := range edges() {
		for _, b := range edges() {
			if b == 0 || a == least && b == -1 {
				continue
			}
			q := floor(bigOf(a), bigOf(b))
			if bigOf(Div(a, b)).Cmp(q) != 0 {
				t.Errorf("Div(%d, %d): %d", a, b, Div(a, b))
			}
			r := new(big.Int).Sub(bigOf(a), q.Mul(q, bigOf(b)))
			if bigOf(Mod(a, b)).Cmp(r) != 0 {
				t.Errorf("Mod(%d, %d): %d", a, b, Mod(a, b))
			}
		}
	}
}

func TestMulDiv(t *testing.T) { // P1.3
	for _, a := range edges() {
		for _, b := range edges() {
			for _, c := range edges() {
				want, fault := 0, api.ErrArg
				if c != 0 {
					q := floor(new(big.Int).Mul(bigOf(a), bigOf(b)), bigOf(c))
					fault = api.ErrOver
					if q.IsInt64() {
						want, fault = int(q.Int64()), api.OK
					}
				}
				if n, e := MulDiv(a, b, c); n != want || e != fault {
					t.Errorf("MulDiv(%d, %d, %d): %d, %d; not %d, %d", a, b, c, n, int(e), want, int(fault))
				}
			}
		}
	}
}

func TestMulDivAtTheLeastInt(t *testing.T) { // P1.3
	for _, x := range []struct {
		a, b, c, n int
		e          api.Errno
	}{
		{least, 1, 1, least, api.OK},
		{least, -1, -1, least, api.OK},
		{least, -1, 1, 0, api.ErrOver},
		{most, 2, -2, -most, api.OK},
		{-2, 1<<62 + 1, 2, -1<<62 - 1, api.OK},
		{least, 3, 3, least, api.OK},
		{-3, 3074457345618258603, 1, 0, api.ErrOver}, // by one below the least int
		{-6, 3074457345618258603, 2, 0, api.ErrOver},
		{least, most, most - 1, 0, api.ErrOver},
		{-11, 3353953467947191203, 4, 0, api.ErrOver}, // by a quarter below the least int
		{11, 3353953467947191203, -4, 0, api.ErrOver},
		{-31, 1190112520884487201, 4, least, api.OK}, // by a quarter above it
		{least, 1<<62 - 1, 1 << 62, -most + 1, api.OK},
		{least, least, -1, 0, api.ErrOver},
		{least, least, least, least, api.OK},
	} {
		if n, e := MulDiv(x.a, x.b, x.c); n != x.n || e != x.e {
			t.Errorf("MulDiv(%d, %d, %d): %d, %d", x.a, x.b, x.c, n, int(e))
		}
	}
}

func TestPercent(t *testing.T) { // P1.3
	for _, x := range []struct {
		mille, basis, n int
		e               api.Errno
	}{
		{12500, 800, 100, api.OK},
		{100000, top, top, api.OK},
		{100000, -top, -top, api.OK},
		{-100000, top, -top, api.OK},
		{100001, top, 0, api.ErrOver},
		{-100001, top, 0, api.ErrOver},
		{33333, 100, 33, api.OK},
		{-1, 100, -1, api.OK},
		{1, -100, -1, api.OK},
		{1, 99999, 0, api.OK},
		{1, 100000, 1, api.OK},
		{0, top, 0, api.OK},
		{api.MaxMille, 1, 10737, api.OK},
		{-api.MaxMille, 1, -10738, api.OK},
		{api.MaxMille, top, 0, api.ErrOver},
		{-api.MaxMille, top, 0, api.ErrOver},
		{api.MaxMille + 1, 0, 0, api.ErrArg},
		{-api.MaxMille - 1, 0, 0, api.ErrArg},
		{0, top + 1, 0, api.ErrArg},
		{0, -top - 1, 0, api.ErrArg},
		{least, 1, 0, api.ErrArg},
		{1, least, 0, api.ErrArg},
		{most, most, 0, api.ErrArg},
	} {
		if n, e := Percent(x.mille, x.basis); n != x.n || e != x.e {
			t.Errorf("Percent(%d, %d): %d, %d", x.mille, x.basis, n, int(e))
		}
	}
}

func TestSplit(t *testing.T) { // P1.4
	for _, x := range []struct {
		n, parts int
		want     []int
	}{
		{10, 3, []int{4, 3, 3}}, {11, 3, []int{4, 4, 3}}, {9, 3, []int{3, 3, 3}}, {2, 3, []int{1, 1, 0}}, {0, 2, []int{0, 0}}, {5, 1, []int{5}},
		{most, 2, []int{1 << 62, 1<<62 - 1}},
		{-1, 3, nil}, {least, 3, nil}, {3, 0, nil}, {3, -1, nil}, {3, least, nil}, {3, api.MaxNodes*16 + 1, nil}, {3, most, nil},
	} {
		if l := Split(x.n, x.parts); !slices.Equal(l, x.want) {
			t.Errorf("Split(%d, %d): %v", x.n, x.parts, l)
		}
	}
	if l := Split(api.MaxNodes*16+1, api.MaxNodes*16); len(l) != api.MaxNodes*16 || l[0] != 2 || l[1] != 1 || l[len(l)-1] != 1 {
		t.Error("the most parts that may be")
	}
}

func TestSplitIsWhole(t *testing.T) { // P1.4, P1.7
	next := chance(1)
	for range 500 {
		n, parts := next(1<<40), 1+next(50)
		if next(3) == 0 {
			n = next(60)
		}
		l := Split(n, parts)
		sum := 0
		for i, part := range l {
			if part < 0 || i > 0 && part > l[i-1] || l[0]-part > 1 {
				t.Fatalf("Split(%d, %d): %v", n, parts, l)
			}
			sum += part
		}
		if len(l) != parts || sum != n {
			t.Fatalf("Split(%d, %d): %v", n, parts, l)
		}
	}
}

func TestShare(t *testing.T) { // P1.5
	const heavy = api.MaxMille
	for _, x := range []struct {
		n       int
		weights []int
		want    []int
	}{
		{10, []int{1, 1, 1}, []int{3, 3, 4}},
		{10, []int{1, 0, 2}, []int{3, 0, 7}},
		{10, []int{0, 1, 0}, []int{0, 10, 0}},
		{19264, []int{1000, 2000}, []int{6421, 12843}},
		{0, []int{1, 2}, []int{0, 0}},
		{1, []int{1, 1}, []int{0, 1}},
		{top, []int{heavy}, []int{top}},
		{top, []int{heavy, heavy, heavy}, []int{top / 3, top / 3, top/3 + 1}},
		{5, nil, nil},
		{5, []int{}, nil},
		{5, []int{0}, nil},
		{5, []int{0, 0, 0}, nil},
		{5, []int{-1, 2}, nil},
		{5, []int{2, -1}, nil},
		{5, []int{1, heavy + 1}, nil},
		{5, []int{least, 1}, nil},
		{5, []int{most, most, 2}, nil},
		{-1, []int{1}, nil},
		{top + 1, []int{1}, nil},
		{least, []int{1}, nil},
		{most, []int{1}, nil},
	} {
		if l := Share(x.n, x.weights); !slices.Equal(l, x.want) {
			t.Errorf("Share(%d, %v): %v", x.n, x.weights, l)
		}
	}
}

func TestShareByMany(t *testing.T) { // P1.5
	many := make([]int, api.MaxNodes*16+1)
	for i := range many {
		many[i] = api.MaxMille
	}
	if len(Share(5, many)) != 0 {
		t.Error("more weights than may be")
	}
	l := Share(top, many[1:])
	if len(l) != api.MaxNodes*16 || l[0] != 1<<20 || l[len(l)-1] != 1<<20 {
		t.Error("the most weights that may be")
	}
}

func TestShareIsWholeAndNear(t *testing.T) { // P1.5, P1.7, P1.8
	next := chance(2)
	for range 500 {
		n, weights, all := next(top+1), make([]int, 1+next(20)), 0
		for i := range weights {
			if next(4) > 0 {
				weights[i] = next(api.MaxMille + 1)
			}
			all += weights[i]
		}
		if all == 0 {
			continue
		}
		l := Share(n, weights)
		if len(l) != len(weights) {
			t.Fatalf("Share(%d, %v): %v", n, weights, l)
		}
		sum := 0
		for i, part := range l {
			sum += part
			exact := new(big.Int).Mul(bigOf(n), bigOf(weights[i]))
			off := exact.Sub(exact, new(big.Int).Mul(bigOf(part), bigOf(all)))
			if part < 0 || off.CmpAbs(bigOf(all)) >= 0 {
				t.Fatalf("Share(%d, %v) at %d: %v", n, weights, i, l)
			}
		}
		if sum != n {
			t.Fatalf("Share(%d, %v): %d in all", n, weights, sum)
		}
	}
}

// TestLeavesListsAlone: what is handed in is neither changed nor handed out, its spare room neither.
func TestLeavesListsAlone(t *testing.T) {
	room := []int{1, 2, 3, 77, 78}
	l := Share(100, room[:3])
	_, _ = Sum(room[:3])
	if !slices.Equal(l, []int{16, 34, 50}) {
		t.Error(l)
	}
	for i := range l {
		l[i] = -1
	}
	if !slices.Equal(room, []int{1, 2, 3, 77, 78}) {
		t.Error(room)
	}
}

func TestSharesMayBeLeft(t *testing.T) {
	count := 0
	for range shares(10, 3, []int{1, 1, 1}) {
		count++
		break
	}
	if count != 1 {
		t.Error(count)
	}
}

func TestClamp(t *testing.T) { // P1.6
	for _, x := range []struct{ n, low, high, want int }{
		{2, 1, 3, 2}, {5, 1, 3, 3}, {0, 1, 3, 1}, {1, 1, 3, 1}, {3, 1, 3, 3},
		{5, 9, 3, 9}, {2, 9, 3, 9}, {10, 9, 3, 9},
		{least, -1, 1, -1}, {most, -1, 1, 1}, {0, least, most, 0}, {0, most, least, most}, {most, least, least, least},
	} {
		if n := Clamp(x.n, x.low, x.high); n != x.want {
			t.Errorf("Clamp(%d, %d, %d): %d", x.n, x.low, x.high, n)
		}
	}
}
