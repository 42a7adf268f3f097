// Package fixed has lengths, and what is reckoned of them. See shared/doc/01-fixed.md.
package fixed

import (
	"iter"
	"math/bits"

	"parterre/api"
)

const (
	maxParts = api.MaxNodes * 16
	whole    = 100 * api.Mille
)

// Is tells whether a number is a length.
func Is(n int) bool { return -api.MaxPx <= n && n <= api.MaxPx }

// Add tells a sum.
func Add(a, b int) (int, api.Errno) {
	if !Is(a) || !Is(b) {
		return 0, api.ErrArg
	}
	return length(a + b)
}

// Sub tells a difference.
func Sub(a, b int) (int, api.Errno) {
	if !Is(a) || !Is(b) {
		return 0, api.ErrArg
	}
	return length(a - b)
}

func length(n int) (int, api.Errno) {
	if !Is(n) {
		return 0, api.ErrOver
	}
	return n, api.OK
}

// Sum tells the sum of lengths.
func Sum(l []int) (int, api.Errno) {
	sum, fault := 0, api.OK
adding:
	for _, n := range l {
		switch sum, fault = Add(sum, n); fault {
		case api.ErrArg, api.ErrOver:
			// What comes later could bring the sum back, or be a worse fault: neither counts.
			break adding
		}
	}
	return sum, fault
}

// Div tells a quotient, rounded down.
func Div(a, b int) int {
	if b == 0 {
		return 0
	}
	q := a / b
	if roundsUp(a, b) {
		q--
	}
	return q
}

// Mod tells what is left of it.
func Mod(a, b int) int {
	if b == 0 {
		return a
	}
	rest := a % b
	if roundsUp(a, b) {
		rest += b
	}
	return rest
}

// roundsUp tells whether the language's own division, which rounds towards 0, lies above the quotient.
func roundsUp(a, b int) bool {
	rest := a % b
	return rest != 0 && (rest < 0) != (b < 0)
}

// MulDiv tells a product by a number, rounded down.
func MulDiv(a, b, c int) (int, api.Errno) {
	if c == 0 {
		return 0, api.ErrArg
	}
	high, low := bits.Mul64(size(a), size(b))
	// Div64 has no answer where the quotient has more than 64 bits.
	if high >= size(c) {
		return 0, api.ErrOver
	}
	quotient, rest := bits.Div64(high, low, size(c))
	minus := ((a < 0) != (b < 0)) != (c < 0)
	return signed(quotient, rest > 0, minus)
}

// size is unsigned, since the least int has no counterpart among the ints.
func size(n int) uint64 {
	if n < 0 {
		return -uint64(n)
	}
	return uint64(n)
}

// signed puts the sign back on a quotient; below 0, rounding down makes it greater where something was left.
func signed(quotient uint64, left, minus bool) (int, api.Errno) {
	const leastInt = 1 << 63
	switch {
	case !minus && quotient >= leastInt,
		minus && quotient > leastInt,
		minus && quotient == leastInt && left:
		return 0, api.ErrOver
	case !minus:
		return int(quotient), api.OK
	case left:
		quotient++
	}
	return int(-quotient), api.OK
}

// Percent tells a part of a length.
func Percent(mille, basis int) (int, api.Errno) {
	if !Is(basis) || mille < -api.MaxMille || mille > api.MaxMille {
		return 0, api.ErrArg
	}
	n, fault := MulDiv(basis, mille, whole)
	if fault != api.OK {
		return 0, fault
	}
	return length(n)
}

// Split parts a number alike.
func Split(n, parts int) []int {
	if n < 0 || parts < 1 || parts > maxParts {
		return nil
	}
	list := make([]int, parts)
	for i := range list {
		list[i] = n / parts
		if i < n%parts {
			list[i]++
		}
	}
	return list
}

// Share parts a number by weights.
func Share(n int, weights []int) []int {
	all := weigh(weights)
	if all == 0 || n < 0 || n > api.MaxPx {
		return nil
	}
	list := make([]int, 0, len(weights))
	for part := range shares(n, all, weights) {
		list = append(list, part)
	}
	return list
}

// weigh tells what the weights are together; 0, if nothing can be shared by them.
func weigh(weights []int) int {
	if len(weights) > maxParts {
		return 0
	}
	all := 0
	for _, w := range weights {
		if w < 0 || w > api.MaxMille {
			return 0
		}
		all += w
	}
	return all
}

// shares rounds what the parts have together, not each part, so that no unit is lost.
func shares(n, all int, weights []int) iter.Seq[int] {
	return func(yield func(int) bool) {
		weight, given := 0, 0
		for _, w := range weights {
			weight += w
			together, _ := MulDiv(n, weight, all) // at most n: it has room
			if !yield(together - given) {
				return
			}
			given = together
		}
	}
}

// Clamp keeps a number within two.
func Clamp(n, low, high int) int { return max(min(n, high), low) }
