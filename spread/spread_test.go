package spread_test

import (
	"math"
	"slices"
	"testing"

	"parterre/api"
	"parterre/fixed"
	"parterre/spread"
)

const (
	inf  = api.Inf
	most = 16 * api.MaxNodes
)

func all(n int) []bool { return slices.Repeat([]bool{true}, n) }

// noSpaces are those that can't be given.
func noSpaces() []int {
	return []int{math.MinInt, -inf, -1, inf, inf + 1, math.MaxInt}
}

func noRooms() []int { return []int{math.MinInt, -1, inf + 1, math.MaxInt} }

func zeros(t *testing.T, l []int, n int) {
	t.Helper()
	if len(l) != n || slices.ContainsFunc(l, func(n int) bool { return n != 0 }) {
		t.Errorf("%.200v, not %d zeros", l, n)
	}
}

func TestUp(t *testing.T) { // P23.1
	for _, x := range []struct {
		space      int
		room, want []int
	}{
		{10, []int{2, 100, 100}, []int{2, 4, 4}},
		{11, []int{2, 100, 100}, []int{2, 5, 4}},
		{11, []int{100, 2, 100}, []int{5, 2, 4}},
		{11, []int{100, 100, 2}, []int{5, 4, 2}},
		{202, []int{2, 100, 100}, []int{2, 100, 100}},
		{201, []int{2, 100, 100}, []int{2, 100, 99}},
		{203, []int{2, 100, 100}, []int{2, 100, 100}},
		{0, []int{2, 100}, []int{0, 0}},
		{1, []int{2, 100}, []int{1, 0}},
		{1, []int{0, 100}, []int{0, 1}},
		{2, []int{1, 5, 5}, []int{1, 1, 0}},
		{4, []int{1, 5, 5}, []int{1, 2, 1}},
		{7, []int{1, 2, 3, 4}, []int{1, 2, 2, 2}},
		{8, []int{1, 2, 3, 4}, []int{1, 2, 3, 2}},
		{9, []int{4, 3, 2, 1}, []int{3, 3, 2, 1}},
		{7, []int{inf, 0, inf}, []int{4, 0, 3}},
		{inf - 1, []int{inf}, []int{inf - 1}},
		{inf - 1, []int{inf - 2}, []int{inf - 2}},
		{inf - 1, []int{inf, inf}, []int{inf / 2, inf/2 - 1}},
		{inf - 1, []int{inf, 1, inf, inf}, []int{inf / 3, 1, inf / 3, inf/3 - 1}},
		{5, []int{0, 0}, []int{0, 0}},
		{5, nil, nil},
		{0, nil, nil},
	} {
		if l := spread.Up(x.space, x.room); !slices.Equal(l, x.want) {
			t.Errorf("%d among %v: %v, not %v", x.space, x.room, l, x.want)
		}
	}
}

func TestUpZeros(t *testing.T) { // P23.1: what can't be given
	for _, space := range noSpaces() {
		for _, room := range [][]int{nil, {5}, {inf, 3}, {-1}} {
			zeros(t, spread.Up(space, room), len(room))
		}
	}
	for _, n := range noRooms() {
		for _, room := range [][]int{{n}, {5, n}, {n, 5}, {5, n, inf}} {
			zeros(t, spread.Up(5, room), len(room))
		}
	}
}

func TestMany(t *testing.T) { // P23.1 to P23.3: as many as there may be, and one more
	room := slices.Repeat([]int{inf}, most+1)
	for _, l := range [][]int{spread.Up(most+2, room[:most]), spread.Fill(most+2, room[:most], make([]bool, most)), spread.Fill(most+2, make([]int, most), all(most))} {
		if len(l) != most || l[0] != 2 || l[1] != 2 || l[2] != 1 || l[most-1] != 1 {
			t.Errorf("%.200v", l)
		}
	}
	by := spread.By(2*most, slices.Repeat([]int{7}, most))
	if !slices.Equal(by, slices.Repeat([]int{2}, most)) {
		t.Errorf("%.200v", by)
	}
	for _, space := range []int{0, 1, most + 2, inf - 1, inf, -1} {
		zeros(t, spread.Up(space, room), most+1)
		zeros(t, spread.Fill(space, room, make([]bool, most+1)), most+1)
		zeros(t, spread.Fill(space, room, all(most+1)), most+1)
		zeros(t, spread.Fill(space, make([]int, most+1), all(most+1)), most+1)
		zeros(t, spread.Fill(space, room, nil), most+1)
		zeros(t, spread.By(space, slices.Repeat([]int{7}, most+1)), most+1)
		zeros(t, spread.By(space, make([]int, most+1)), most+1)
	}
}

func TestUpStairs(t *testing.T) { // P23.1: rooms that are all unlike
	room := make([]int, most)
	for i := range room {
		room[i] = i
	}
	const level = 40000
	space := level*(level-1)/2 + (most-level)*level + 3 // three of those above the level have one more
	for i, n := range spread.Up(space, room) {
		want := min(i, level)
		if level < i && i <= level+3 {
			want++
		}
		if n != want {
			t.Fatal(i, n, want)
		}
	}
}

func TestFill(t *testing.T) { // P23.2
	const f, y = false, true
	for _, x := range []struct {
		space  int
		room   []int
		beyond []bool
		want   []int
	}{
		{10, []int{2, 3}, []bool{y, f}, []int{7, 3}},
		{10, []int{2, 3}, []bool{f, y}, []int{2, 8}},
		{10, []int{2, 3}, []bool{f, f}, []int{2, 3}},
		{10, []int{2, 3}, []bool{y, y}, []int{5, 5}},
		{11, []int{2, 3}, []bool{y, y}, []int{5, 6}},
		{12, []int{2, 3, 1}, []bool{y, f, y}, []int{5, 3, 4}},
		{13, []int{2, 3, 1}, []bool{y, f, y}, []int{6, 3, 4}},
		{5, []int{2, 3}, []bool{y, f}, []int{2, 3}},
		{6, []int{2, 3}, []bool{y, f}, []int{3, 3}},
		{4, []int{9, 9}, []bool{y, y}, []int{2, 2}},
		{4, []int{9, 9}, []bool{f, y}, []int{2, 2}},
		{7, []int{0, 0, 0}, []bool{f, y, y}, []int{0, 4, 3}},
		{0, []int{0, 1}, []bool{y, y}, []int{0, 0}},
		{inf - 1, []int{0, 0}, []bool{y, f}, []int{inf - 1, 0}},
		{inf - 1, []int{inf, 0}, []bool{f, y}, []int{inf - 1, 0}},
		{inf - 1, []int{1, 2}, []bool{f, y}, []int{1, inf - 2}},
		{5, nil, nil, nil},
		{5, nil, []bool{}, nil},
	} {
		if l := spread.Fill(x.space, x.room, x.beyond); !slices.Equal(l, x.want) {
			t.Errorf("%d among %v, %v: %v, not %v", x.space, x.room, x.beyond, l, x.want)
		}
	}
}

func TestFillZeros(t *testing.T) { // P23.2: what can't be given
	for _, x := range []struct {
		room   []int
		beyond []bool
	}{{[]int{2, 3}, nil}, {[]int{2, 3}, all(1)}, {[]int{2, 3}, all(3)}, {nil, all(1)}, {[]int{0}, nil}, {[]int{0}, all(2)}} {
		for _, space := range append(noSpaces(), 0, 10) {
			zeros(t, spread.Fill(space, x.room, x.beyond), len(x.room))
		}
	}
	for _, space := range noSpaces() {
		zeros(t, spread.Fill(space, nil, nil), 0)
		zeros(t, spread.Fill(space, []int{2, 3}, all(2)), 2)
		zeros(t, spread.Fill(space, []int{0, 0}, all(2)), 2)
	}
	for _, n := range noRooms() {
		zeros(t, spread.Fill(10, []int{2, n}, all(2)), 2)
		zeros(t, spread.Fill(10, []int{n, 2}, []bool{false, true}), 2)
	}
}

func TestBy(t *testing.T) { // P23.3
	const top = api.MaxPx
	for _, x := range []struct {
		space         int
		weights, want []int
	}{
		{10, []int{1, 3}, []int{2, 8}},
		{10, []int{1, 1, 1}, []int{3, 3, 4}},
		{19264, []int{1000, 2000}, []int{6421, 12843}},
		{10, []int{0, 5}, []int{0, 10}},
		{0, []int{1, 3}, []int{0, 0}},
		{top, []int{1, 1}, []int{top / 2, top / 2}},
		{top + 1, []int{1, 1}, []int{top / 2, top / 2}},
		{inf - 1, []int{1, 3}, []int{top / 4, 3 * top / 4}},
		{inf - 1, []int{api.MaxMille}, []int{top}},
		{7, []int{0, 0}, []int{4, 3}},
		{7, []int{0}, []int{7}},
		{7, []int{-1, 5}, []int{4, 3}},
		{7, []int{5, api.MaxMille + 1}, []int{4, 3}},
		{7, []int{math.MinInt, math.MaxInt, 1}, []int{3, 2, 2}},
		{top + 1, []int{0, 0}, []int{top/2 + 1, top / 2}},
		{inf - 1, []int{0}, []int{inf - 1}},
		{inf - 1, []int{-1, 0}, []int{inf / 2, inf/2 - 1}},
		{0, []int{0, 0}, []int{0, 0}},
		{7, nil, nil},
		{7, []int{}, nil},
	} {
		if l := spread.By(x.space, x.weights); !slices.Equal(l, x.want) {
			t.Errorf("%d by %v: %v, not %v", x.space, x.weights, l, x.want)
		}
	}
	for _, space := range noSpaces() {
		for _, weights := range [][]int{nil, {1}, {1, 3}, {0, 0}, {-1, 4}} {
			zeros(t, spread.By(space, weights), len(weights))
		}
	}
	for space := range 200 {
		if weights := []int{3, 0, 7, 1}; !slices.Equal(spread.By(space, weights), fixed.Share(space, weights)) {
			t.Error(space)
		}
	}
}

func TestHandedIn(t *testing.T) { // rules 4 and 8
	room, beyond := []int{2, 3, 77, 88}, []bool{true, false, true, true}
	for _, l := range [][]int{spread.Up(50, room[:2]), spread.Fill(50, room[:2], beyond[:2]), spread.By(50, room[:2]), spread.By(50, []int{0, 0, 1, 1}[:2])} {
		if len(l) != 2 {
			t.Fatal(l)
		}
		l = append(l, 5)
		l[0], l[1] = -9, -9
	}
	if !slices.Equal(room, []int{2, 3, 77, 88}) || !slices.Equal(beyond, []bool{true, false, true, true}) {
		t.Error(room, beyond)
	}
}
