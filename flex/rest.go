package flex

import (
	"cmp"
	"math/bits"
	"slices"

	"parterre/api"
	"parterre/fixed"
)

// span is tracks from one on, ahead of another one.
type span struct{ from, to int }

// row is tracks side by side, and where those are that may become stiff: the one of the greatest Base by Fr first.
type row struct {
	s     []api.Sizing
	order []int
}

func rowOf(s []api.Sizing) row {
	var order []int
	for at, t := range s {
		if isFlexible(t) && t.Base > 0 { // one that has nothing has never too much
			order = append(order, at)
		}
	}
	slices.SortFunc(order, func(a, b int) int {
		return compare(s[b].Base, s[a].Fr, s[a].Base, s[b].Fr)
	})
	return row{s, order}
}

// rest is what tracks leave of a space.
type rest struct {
	left  int
	count int // of the flexible ones that are not stiff
	fr    int // theirs together
}

// rest tells it of those tracks, when no more of them are stiff.
func (r row) rest(of span, space int) rest {
	x := rest{left: space}
	for i := of.from; i < of.to; i++ {
		if t := &r.s[i]; isFlexible(*t) {
			x.count, x.fr = x.count+1, x.fr+t.Fr
		} else {
			x.left = less(x.left, t.Base)
		}
	}
	// With each stiff one what is left by the parts gets less: whoever is stiff stays so, and behind the first one that is not nobody is.
finding:
	for _, at := range r.order {
		switch t := &r.s[at]; {
		case at < of.from || at >= of.to:
			continue
		case !x.isStiff(*t):
			break finding
		default:
			x = rest{less(x.left, t.Base), x.count - 1, x.fr - t.Fr}
		}
	}
	return x
}

func (x rest) parts() int { return max(x.fr, api.Mille) }

// isStiff tells whether a flexible track has more than it would get.
func (x rest) isStiff(t api.Sizing) bool {
	return compare(t.Base, x.parts(), x.left, t.Fr) > 0
}

// unit tells how much one fr is.
func (x rest) unit() int {
	if x.count == 0 {
		return 0
	}
	return divUp(x.left*api.Mille, x.parts())
}

// shared tells what those that are not stiff get by their parts: all that is left, if these are a whole fr or more together.
func (x rest) shared(parts []int) []int {
	if x.fr >= api.Mille {
		return fixed.Share(x.left, parts)
	}
	got := make([]int, len(parts))
	for i, n := range parts {
		got[i] = fixed.Div(x.left*n, api.Mille)
	}
	return got
}

// less tells a number less others, none of them below 0; 0, if that is below 0.
func less(n int, others ...int) int {
	for _, other := range others {
		n = max(n-other, 0)
	}
	return n
}

// compare compares the product of a and b with that of c and d, none of them below 0. They may have more bits than an int.
func compare(a, b, c, d int) int {
	high, low := bits.Mul64(uint64(a), uint64(b))
	otherHigh, otherLow := bits.Mul64(uint64(c), uint64(d))
	return cmp.Or(cmp.Compare(high, otherHigh), cmp.Compare(low, otherLow))
}

// divUp tells a quotient, rounded up.
func divUp(a, b int) int { return -fixed.Div(-a, b) }
