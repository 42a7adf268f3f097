package layout

import (
	"slices"

	"parterre/api"
)

// copied tells nodes that share no list with those handed in.
func copied(l []api.Node) []api.Node {
	return each(l, func(n api.Node) api.Node {
		n.Style = copiedStyle(n.Style)
		return n
	})
}

func copiedStyle(s api.Style) api.Style {
	s.Rows, s.Cols = each(s.Rows, copiedPiece), each(s.Cols, copiedPiece)
	s.Areas = each(s.Areas, slices.Clone[[]string])
	s.AutoRows, s.AutoCols = slices.Clone(s.AutoRows), slices.Clone(s.AutoCols)
	s.Content = each(s.Content, slices.Clone[[]api.Box])
	return s
}

func copiedPiece(p api.Piece) api.Piece {
	p.Names, p.Inner = slices.Clone(p.Names), each(p.Inner, copiedPiece)
	return p
}

// each tells a new list of what is made of each of a list.
func each[T any](l []T, made func(T) T) []T {
	l = slices.Clone(l)
	for i, x := range l {
		l[i] = made(x)
	}
	return l
}
