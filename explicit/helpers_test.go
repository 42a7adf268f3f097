package explicit_test

import (
	"math"
	"strings"
	"testing"

	"parterre/api"
	"parterre/document"
	"parterre/explicit"
	"parterre/track"
)

const px = api.Unit

// styled tells the style of a container with some properties, between which a ; stands.
func styled(t *testing.T, s string) api.Style {
	t.Helper()
	text := "grid { "
	for _, property := range strings.Split(s, ";") {
		if strings.TrimSpace(property) != "" {
			text += property + "; "
		}
	}
	l, at, e := document.Parse([]byte(text + "}"))
	if e != api.OK {
		t.Fatalf("%.200s: %d at %d", s, int(e), at)
	}
	return l[0].Style
}

// extent is a container's size along an axis, and whether it is definite.
type extent struct {
	n        int
	definite bool
}

func definite(n int) extent { return extent{n, true} }

func unknown() extent { return extent{} }

func grid(t *testing.T, s api.Style, width, height extent) api.Grid {
	t.Helper()
	g, e := explicit.Grid(s, width.n, width.definite, height.n, height.definite)
	if e != api.OK || !explicit.Good(g) {
		t.Fatalf("%.200v, %v, %v: %.200v, %d", s, width, height, g, int(e))
	}
	return g
}

// fails asks for an error, and for nothing beside it.
func fails(t *testing.T, s api.Style, width, height extent, want api.Errno) {
	t.Helper()
	g, e := explicit.Grid(s, width.n, width.definite, height.n, height.definite)
	if e != want || !isNothing(g) {
		t.Errorf("%.200v, %v, %v: %.200v, %d, not %d", s, width, height, g, int(e), int(want))
	}
}

func isNothing(g api.Grid) bool {
	none := func(a api.Axis, table [][]string, gap int) bool {
		return len(a.Lines)+len(a.Tracks)+len(table) == 0 && a.From == 0 && a.To == 0 && gap == 0
	}
	return none(g.Cols, g.ColNames, g.ColGap) && none(g.Rows, g.RowNames, g.RowGap)
}

// lines tells a table as text: names with blanks between, lines with / between.
func lines(l [][]string) string {
	var parts []string
	for _, line := range l {
		parts = append(parts, strings.Join(line, " "))
	}
	return strings.Join(parts, "/")
}

func sizes(a api.Axis) string {
	var l []string
	for _, x := range a.Tracks {
		l = append(l, track.SizeText(x))
	}
	return strings.Join(l, " ")
}

// noSizes are those that no container has.
func noSizes() []int {
	return []int{math.MinInt, math.MinInt + 1, -api.MaxPx - 1, -api.MaxPx, -64, -1, api.MaxPx + 1, 1 << 50, math.MaxInt - 1, math.MaxInt}
}
