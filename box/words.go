package box

import (
	"slices"

	"parterre/api"
	"parterre/value"
)

// Words reads a leaf's content.
func Words(l []api.Token, at int) ([][]api.Box, int, api.Errno) {
	if which, next := value.Keyword(l, at, []string{"none"}); which == 0 {
		return nil, next, api.OK
	}
	var words [][]api.Box
	var word []api.Box
	for ahead := 0; ; ahead++ {
		b, next, e := readBox(readerOf(l, 0), at, ahead)
		if e != api.OK {
			return nil, next, e
		}
		word = append(word, b)
		if !value.Sign(l, next, ",") {
			words, word = append(words, word), nil
			if !value.Sign(l, next, "/") {
				return words, next, api.OK
			}
		}
		at = next + 1
	}
}

// readBox reads a box that has so many ahead of it.
func readBox(read sizeReader, at, ahead int) (api.Box, int, api.Errno) {
	w, next, e := read(at)
	switch {
	case e != api.OK:
		return api.Box{}, next, e
	case ahead == api.MaxWords:
		return api.Box{}, at, api.ErrLimit // a box has begun, whatever stands behind its W
	}
	h, next, e := read(next)
	if e != api.OK {
		return api.Box{}, next, e
	}
	return api.Box{W: w.N, H: h.N}, next, api.OK
}

// WordsGood tells whether content may be.
func WordsGood(w [][]api.Box) bool {
	count := 0
	for _, word := range w {
		count += len(word)
		if len(word) == 0 || count > api.MaxWords || slices.ContainsFunc(word, isWrong) {
			return false
		}
	}
	return true
}

func isWrong(b api.Box) bool { return min(b.W, b.H) < 0 || max(b.W, b.H) > api.MaxPx }

// WordsText tells its text.
func WordsText(w [][]api.Box) string {
	switch {
	case len(w) == 0:
		return "none"
	case !WordsGood(w):
		return ""
	}
	wordText := func(word []api.Box) string { return joined(word, ", ", boxText) }
	return joined(w, " / ", wordText)
}

func boxText(b api.Box) string {
	return spaced(api.Len{Kind: api.LenPx, N: b.W}, api.Len{Kind: api.LenPx, N: b.H})
}

// WordsSame tells whether two are the same.
func WordsSame(a, b [][]api.Box) bool { return alike(a, b) }

// alike tells whether two lists have as many lists, and these the same elements.
func alike[T comparable](a, b [][]T) bool { return slices.EqualFunc(a, b, slices.Equal[[]T]) }
