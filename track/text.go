package track

import (
	"strconv"
	"strings"

	"parterre/api"
	"parterre/ident"
	"parterre/value"
)

// SizeText tells a size's text.
func SizeText(t api.Track) string {
	switch {
	case !Right(t):
		return ""
	case t.Fit:
		return "fit-content(" + value.Text(t.Limit) + ")"
	case t == plain(t.Max):
		return value.Text(t.Max)
	}
	return "minmax(" + value.Text(t.Min) + ", " + value.Text(t.Max) + ")"
}

// Text tells a template's text.
func Text(l []api.Piece) string {
	switch {
	case len(l) == 0:
		return "none"
	case !Good(l):
		return ""
	}
	return spaced(l, pieceText)
}

func pieceText(p api.Piece) string {
	repeat := func(times string) string { return "repeat(" + times + ", " + spaced(p.Inner, pieceText) + ")" }
	switch p.Kind {
	case api.PieceNames:
		return "[" + spaced(p.Names, ident.Write) + "]"
	case api.PieceTrack:
		return SizeText(p.Track)
	case api.PieceRepeat:
		return repeat(strconv.Itoa(p.Count))
	case api.PieceFill:
		return repeat("auto-fill")
	}
	return repeat("auto-fit")
}

// spaced puts the texts of a list's elements together with one blank between.
func spaced[T any](l []T, text func(T) string) string {
	texts := make([]string, len(l))
	for i, x := range l {
		texts[i] = text(x)
	}
	return strings.Join(texts, " ")
}
