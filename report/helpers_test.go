package report_test

import (
	"math"
	"testing"

	"parterre/api"
	"parterre/document"
)

const (
	top  = api.MaxPx
	unit = api.Unit
)

// nodes are those of a document.
func nodes(t *testing.T, text string) []api.Node {
	t.Helper()
	l, at, e := document.Parse([]byte(text))
	if e != api.OK {
		t.Fatal(text, at, int(e))
	}
	return l
}

// noLengths are numbers that are no length.
func noLengths() []int { return []int{math.MinInt, -top - 1, top + 1, math.MaxInt} }

func rect(x, y, w, h int) api.Rect { return api.Rect{X: x, Y: y, W: w, H: h} }

// side is tracks of such sizes, which begin there; some of them are gone.
func side(sizes, starts []int, gone ...bool) api.Side {
	s := api.Side{Sizes: sizes, Starts: starts}
	s.Tracks.List = make([]api.Track, len(sizes))
	s.Tracks.Gone = make([]bool, len(sizes))
	copy(s.Tracks.Gone, gone)
	return s
}
