package box_test

import (
	"fmt"
	"math"
	"strings"
	"testing"

	"parterre/api"
	"parterre/box"
)

// alignments are all words, with their kinds and the sets that they are of.
func alignments() []struct {
	word string
	k    int
	sets [3]bool
} {
	return []struct {
		word string
		k    int
		sets [3]bool
	}{
		{"auto", 1, [3]bool{true, false, false}},
		{"normal", 2, [3]bool{true, true, true}},
		{"start", 3, [3]bool{true, true, true}},
		{"end", 4, [3]bool{true, true, true}},
		{"center", 5, [3]bool{true, true, true}},
		{"stretch", 6, [3]bool{true, true, true}},
		{"space-between", 7, [3]bool{false, false, true}},
		{"space-around", 8, [3]bool{false, false, true}},
		{"space-evenly", 9, [3]bool{false, false, true}},
	}
}

// noSets are sets that are none.
func noSets() []int { return []int{math.MinInt, -1, 0, 4, 5, math.MaxInt} }

func allSets() []int { return append(noSets(), box.Self, box.Items, box.Content) }

func aligns(t *testing.T, s string, set, want, next int, wantE api.Errno) {
	t.Helper()
	for l, at := range surroundings(t, s) {
		if k, n, e := box.Align(l, at, set); k != want || n != at+next || e != wantE {
			t.Errorf("Align of %q at %d, set %d: %d, %d, %d; not %d, %d, %d", s, at, set, k, n, int(e), want, at+next, int(wantE))
		}
	}
}

func TestAlign(t *testing.T) { // P9.2, P9.5
	for _, x := range alignments() {
		if got := box.AlignText(x.k); got != x.word {
			t.Errorf("%d: %q, not %q", x.k, got, x.word)
		}
		escaped := fmt.Sprintf(`\%06x`, x.word[0])
		for _, s := range []string{x.word, strings.ToUpper(x.word), strings.ToUpper(x.word[:1]) + x.word[1:], escaped + x.word[1:], x.word + " start", x.word + " baseline"} {
			for i, set := range []int{box.Self, box.Items, box.Content} {
				if x.sets[i] {
					aligns(t, s, set, x.k, 1, api.OK)
				} else {
					aligns(t, s, set, 0, 0, api.ErrSyntax)
				}
			}
			for _, set := range noSets() {
				aligns(t, s, set, 0, 0, api.ErrSyntax)
			}
		}
	}
}

func TestAlignErrors(t *testing.T) { // P9.2
	for _, word := range []string{
		"baseline", "first", "last", "safe", "unsafe", "left", "right", "flex-start", "flex-end", "self-start", "self-end", "legacy", "inherit", "initial", "unset", "revert",
	} {
		for _, set := range allSets() {
			aligns(t, word, set, 0, 0, api.ErrFeature)
			aligns(t, strings.ToUpper(word), set, 0, 0, api.ErrFeature)
			aligns(t, word+" start", set, 0, 0, api.ErrFeature)
			aligns(t, word+"s", set, 0, 0, api.ErrSyntax)
			aligns(t, word+"(", set, 0, 0, api.ErrSyntax)
			aligns(t, "'"+word+"'", set, 0, 0, api.ErrSyntax)
		}
	}
	for _, s := range []string{"", "5", "1px", "50%", "none", "'start'", "start(", "starts", "space", "space-between-", "between", "/", "/ start", "middle", "flex", "self", "default", "revert-layer", "2em", "calc(", "\u017ftart"} {
		for _, set := range allSets() {
			aligns(t, s, set, 0, 0, api.ErrSyntax)
		}
	}
}

func TestAlignGood(t *testing.T) { // P9.2
	for _, x := range alignments() {
		for i, set := range []int{box.Self, box.Items, box.Content} {
			if box.AlignGood(x.k, set) != x.sets[i] {
				t.Errorf("%s, set %d: %v", x.word, set, box.AlignGood(x.k, set))
			}
		}
		for _, set := range noSets() {
			if box.AlignGood(x.k, set) {
				t.Errorf("%s, set %d", x.word, set)
			}
		}
	}
	for _, k := range []int{math.MinInt, -1, 0, 10, 11, math.MaxInt} {
		for _, set := range allSets() {
			if box.AlignGood(k, set) {
				t.Errorf("%d, set %d", k, set)
			}
		}
		if got := box.AlignText(k); got != "" {
			t.Errorf("%d: %q", k, got)
		}
	}
}
