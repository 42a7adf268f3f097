package layout_test

import (
	"math"
	"strings"
	"testing"

	"parterre/api"
	"parterre/document"
	"parterre/layout"
	"parterre/number"
	"parterre/style"
	"parterre/token"
)

const (
	top  = api.MaxPx
	unit = api.Unit
)

// nodes are those of a document.
func nodes(t *testing.T, text string) []api.Node {
	t.Helper()
	l, at, e := document.Parse([]byte(text))
	if e != api.OK {
		t.Fatal(text, at, int(e))
	}
	return l
}

// plant is a tree of a document.
func plant(t *testing.T, text string) *layout.Tree {
	t.Helper()
	x, e := layout.Plant(nodes(t, text))
	if e != api.OK || x == nil {
		t.Fatal(text, int(e))
	}
	return x
}

// with is a style, changed by properties, each a name and its text.
func with(t *testing.T, s api.Style, properties ...string) api.Style {
	t.Helper()
	for i := 0; i < len(properties); i += 2 {
		l, _, e := token.Tokens([]byte(properties[i+1]))
		if e == api.OK {
			s, _, e = style.Set(s, properties[i], l, 0)
		}
		if e != api.OK {
			t.Fatal(properties[i:i+2], int(e))
		}
	}
	return s
}

// text is where boxes stand, in px.
func text(l []api.Rect) string {
	var s []string
	for _, r := range l {
		var n []string
		for _, k := range []int{r.X, r.Y, r.W, r.H} {
			n = append(n, number.Text(k, unit))
		}
		s = append(s, strings.Join(n, " "))
	}
	return strings.Join(s, ", ")
}

// lengths is numbers in px.
func lengths(l []int) string {
	var s []string
	for _, n := range l {
		s = append(s, number.Text(n, unit))
	}
	return strings.Join(s, " ")
}

// noSizes are numbers that are no size.
func noSizes() []int { return []int{math.MinInt, -top, -1, top + 1, math.MaxInt} }

// deep tells nodes that share no list with those handed in.
func deep(l []api.Node) []api.Node {
	out := make([]api.Node, len(l))
	for i, n := range l {
		s := n.Style
		s.Rows, s.Cols = deepPieces(s.Rows), deepPieces(s.Cols)
		s.Areas = nil
		for _, row := range n.Style.Areas {
			s.Areas = append(s.Areas, append([]string{}, row...))
		}
		s.AutoRows, s.AutoCols = append([]api.Track{}, s.AutoRows...), append([]api.Track{}, s.AutoCols...)
		s.Content = nil
		for _, word := range n.Style.Content {
			s.Content = append(s.Content, append([]api.Box{}, word...))
		}
		out[i] = api.Node{Kind: n.Kind, Parent: n.Parent, Style: s}
	}
	return out
}

func deepPieces(l []api.Piece) []api.Piece {
	var out []api.Piece
	for _, p := range l {
		p.Names, p.Inner = append([]string{}, p.Names...), deepPieces(p.Inner)
		out = append(out, p)
	}
	return out
}

// spoil writes other things into each list of nodes.
func spoil(l []api.Node) {
	for i := range l {
		s := &l[i].Style
		spoilPieces(s.Rows)
		spoilPieces(s.Cols)
		for _, row := range s.Areas {
			for k := range row {
				row[k] = "spoilt"
			}
		}
		clear(s.Areas)
		clear(s.AutoRows)
		clear(s.AutoCols)
		for _, word := range s.Content {
			clear(word)
		}
		clear(s.Content)
	}
	clear(l)
}

func spoilPieces(l []api.Piece) {
	for i := range l {
		for k := range l[i].Names {
			l[i].Names[k] = "spoilt"
		}
		spoilPieces(l[i].Inner)
	}
	clear(l)
}
