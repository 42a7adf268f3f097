package place

// cover counts how often each of some places is covered. It is a tree of halves: the whole has the number 1, and the halves of i are 2i and 2i+1.
type cover struct {
	places int
	least  []int // of each half: how often its least covered place is, but for what covers a greater half as a whole
}

// half is a part of the tree: its number, and its places from low on, ahead of high.
type half struct{ number, low, high int }

func newCover(places int) *cover { return &cover{places, make([]int, 4*places)} }

func (c *cover) whole() half { return half{1, 0, c.places} }

// parts tells a half's own halves.
func (h half) parts() [2]half {
	middle := (h.low + h.high) / 2
	return [2]half{{2 * h.number, h.low, middle}, {2*h.number + 1, middle, h.high}}
}

// add counts n more at those of a half's places that are from one on, ahead of another.
func (c *cover) add(h half, from, to, n int) {
	if to <= h.low || h.high <= from {
		return
	}
	if from <= h.low && h.high <= to {
		c.least[h.number] += n
		return
	}
	parts := h.parts()
	below := func() int { return min(c.least[parts[0].number], c.least[parts[1].number]) }
	before := below()
	for _, part := range parts {
		c.add(part, from, to, n)
	}
	c.least[h.number] += below() - before
}

// free tells the first of a half's places that nothing covers.
func (c *cover) free(h half) (int, bool) {
	if c.least[h.number] > 0 {
		return 0, false
	}
	for h.low+1 < h.high {
		parts := h.parts()
		h = parts[0]
		if c.least[h.number] > 0 {
			h = parts[1]
		}
	}
	return h.low, true
}
