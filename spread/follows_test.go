package spread_test

import (
	"math/rand/v2"
	"slices"
	"testing"

	"parterre/spread"
)

// unitByUnit gives units one by one: of those that have room, each time to the first one that has the least.
func unitByUnit(space int, room []int) []int {
	got := make([]int, len(room))
	for range space {
		next := -1
		for i, n := range room {
			if got[i] < n && (next < 0 || got[i] < got[next]) {
				next = i
			}
		}
		if next < 0 {
			break
		}
		got[next]++
	}
	return got
}

// atLevel tells how much all get, if each gets a level or its room; at most space and one.
func atLevel(space, level int, room []int) int {
	sum := 0
	for _, n := range room {
		sum = min(sum+min(level, n), space+1)
	}
	return sum
}

// byLevel gives as the promise says it: the greatest level is sought by halves.
func byLevel(space int, room []int) []int {
	low, high := 0, 2*inf
	for low+1 < high {
		if level := (low + high) / 2; atLevel(space, level, room) <= space {
			low = level
		} else {
			high = level
		}
	}
	left := space - atLevel(space, low, room)
	got := make([]int, len(room))
	for i, n := range room {
		got[i] = min(low, n)
		if n > low && left > 0 {
			got[i], left = got[i]+1, left-1
		}
	}
	return got
}

// size is of any number of bits.
func size(random *rand.Rand, most int) int {
	switch random.IntN(8) {
	case 0:
		return 0
	case 1:
		return most
	}
	return random.IntN(min(1<<(1+random.IntN(50)), most) + 1)
}

func TestUpByChance(t *testing.T) { // P23.1
	random := rand.New(rand.NewPCG(23, 1))
	for range 20000 {
		room := make([]int, random.IntN(7))
		for i := range room {
			room[i] = random.IntN(8)
		}
		space := random.IntN(40)
		if got, want := spread.Up(space, room), unitByUnit(space, room); !slices.Equal(got, want) {
			t.Fatal(space, room, got, want)
		}
	}
	for range 20000 {
		room := make([]int, random.IntN(12))
		for i := range room {
			room[i] = size(random, inf)
		}
		space := size(random, inf-1)
		if got, want := spread.Up(space, room), byLevel(space, room); !slices.Equal(got, want) {
			t.Fatal(space, room, got, want)
		}
	}
}

// given tells whether of what was got all is right that the document says of it.
func given(space int, room []int, beyond []bool, got []int) bool {
	all, free, rooms := 0, slices.Contains(beyond, true), 0
	for i, n := range got {
		all += n
		rooms = min(rooms+room[i], space)
		if n < 0 || n > room[i] && !beyond[i] {
			return false
		}
		for k, m := range got { // P23.5
			if n < room[i] && m < room[k] && n > m+1 {
				return false
			}
		}
	}
	return all <= space && (all == space || !free && rooms < space)
}

func TestFollows(t *testing.T) { // P23.4 to P23.6
	random := rand.New(rand.NewPCG(23, 4))
	for range 20000 {
		room := make([]int, random.IntN(9))
		beyond := make([]bool, len(room))
		most := []int{10, 1000, inf}[random.IntN(3)]
		for i := range room {
			room[i], beyond[i] = size(random, most), random.IntN(3) == 0
		}
		less := size(random, min(most*4, inf-2))
		more := min(less+1+random.IntN(1<<random.IntN(20)), inf-1)
		for _, space := range []int{less, more} {
			if got := spread.Up(space, room); !given(space, room, make([]bool, len(room)), got) {
				t.Fatal(space, room, got)
			}
			if got := spread.Fill(space, room, beyond); !given(space, room, beyond, got) {
				t.Fatal(space, room, beyond, got)
			}
		}
		for i, n := range spread.Up(less, room) {
			if spread.Up(more, room)[i] < n {
				t.Fatal(less, more, room)
			}
		}
		for i, n := range spread.Fill(less, room, beyond) {
			if spread.Fill(more, room, beyond)[i] < n {
				t.Fatal(less, more, room, beyond)
			}
		}
	}
}

func TestByIsWhole(t *testing.T) { // P23.4, of all that share by weights
	random := rand.New(rand.NewPCG(23, 3))
	for range 20000 {
		weights := make([]int, 1+random.IntN(9))
		for i := range weights {
			weights[i] = random.IntN(4) - random.IntN(20)/19
		}
		space, sum := random.IntN(1<<(1+random.IntN(36))), 0
		for _, n := range spread.By(space, weights) {
			if n < 0 {
				t.Fatal(space, weights)
			}
			sum += n
		}
		if sum != space {
			t.Fatal(space, weights, sum)
		}
	}
}
