package layout

import (
	"slices"

	"parterre/api"
)

// hasPercentages tells whether a percentage sizes rows, or the gaps between them.
func hasPercentages(s api.Style) bool {
	return isPercentage(s.RowGap) || slices.ContainsFunc(s.AutoRows, isOfPercentage) || haveSome(s.Rows)
}

func haveSome(l []api.Piece) bool {
	return slices.ContainsFunc(l, func(p api.Piece) bool { return isOfPercentage(p.Track) || haveSome(p.Inner) })
}

func isOfPercentage(t api.Track) bool {
	return isPercentage(t.Min) || isPercentage(t.Max) || isPercentage(t.Limit)
}

func isPercentage(v api.Len) bool { return v.Kind == api.LenPct }
