package intrinsic

import (
	"cmp"
	"iter"
	"slices"

	"parterre/api"
)

// span tells how many tracks a want spans.
func span(w api.Want) int { return w.To - w.From }

// merged tells wants sorted by how many tracks they span. Those that span the same ones become one: of more space spread's Fill gives nobody less, so that the greatest of each is what counts.
func merged(wants []api.Want) []api.Want {
	sorted := slices.SortedFunc(slices.Values(wants), func(a, b api.Want) int {
		return cmp.Or(cmp.Compare(span(a), span(b)), cmp.Compare(a.From, b.From))
	})
	var l []api.Want
	for _, w := range sorted {
		if last := len(l) - 1; last >= 0 && l[last].From == w.From && l[last].To == w.To {
			l[last] = greatest(l[last], w)
		} else {
			l = append(l, w)
		}
	}
	return l
}

// greatest tells the greatest of what two wants of the same tracks want.
func greatest(a, b api.Want) api.Want {
	a.Least, a.Min, a.Max = max(a.Least, b.Least), max(a.Min, b.Min), max(a.Max, b.Max)
	return a
}

// groups yields those of sorted wants together that span as many tracks.
func groups(sorted []api.Want) iter.Seq[[]api.Want] {
	return func(yield func([]api.Want) bool) {
		from := 0
		for i, w := range sorted {
			if i+1 < len(sorted) && span(sorted[i+1]) == span(w) {
				continue
			}
			if !yield(sorted[from : i+1]) {
				return
			}
			from = i + 1
		}
	}
}
