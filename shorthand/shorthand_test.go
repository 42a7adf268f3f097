package shorthand_test

import (
	"math"
	"strings"
	"testing"

	"parterre/api"
	"parterre/box"
	"parterre/shorthand"
	"parterre/token"
)

// words tells the words of a text.
func words(t *testing.T, s string) []api.Token {
	t.Helper()
	l, _, e := token.Tokens([]byte(s))
	if e != api.OK {
		t.Fatalf("%.60q: %d", s, int(e))
	}
	return l
}

// surroundings yields the words of a text as they may be handed in: alone, without an end, with other words ahead; and the place where they begin.
func surroundings(t *testing.T, s string) func(yield func([]api.Token, int) bool) {
	t.Helper()
	l := words(t, s)
	ahead := words(t, "start 'a' row [ /")[:5]
	return func(yield func([]api.Token, int) bool) {
		_ = yield(l, 0) && yield(l[:len(l)-1:len(l)-1], 0) && yield(append(ahead, l...), 5)
	}
}

// noPlaces are places that n words don't have.
func noPlaces(n int) []int { return []int{math.MinInt, -2, -1, n, n + 1, math.MaxInt - 1, math.MaxInt} }

func allSets() []int {
	return []int{math.MinInt, -1, 0, box.Self, box.Items, box.Content, 4, math.MaxInt}
}

// placeIs asks what Place tells; with an error no alignment is told.
func placeIs(t *testing.T, s string, set, align, justify, next int, want api.Errno) {
	t.Helper()
	for l, at := range surroundings(t, s) {
		if a, j, n, e := shorthand.Place(l, at, set); a != align || j != justify || n != at+next || e != want {
			t.Errorf("Place of %q at %d, set %d: %d, %d, %d, %d; not %d, %d, %d, %d", s, at, set, a, j, n, int(e), align, justify, at+next, int(want))
		}
	}
}

func TestPlace(t *testing.T) { // P10.1
	for _, set := range allSets() {
		for a := api.AlignAuto; a <= api.AlignEvenly; a++ {
			first := box.AlignText(a)
			if !box.AlignGood(a, set) {
				placeIs(t, first, set, 0, 0, 0, api.ErrSyntax)
				placeIs(t, first+" start", set, 0, 0, 0, api.ErrSyntax)
				placeIs(t, first+" baseline", set, 0, 0, 0, api.ErrSyntax)
				continue
			}
			placeIs(t, first, set, a, a, 1, api.OK)
			for j := api.AlignAuto; j <= api.AlignEvenly; j++ {
				both := first + " " + strings.ToUpper(box.AlignText(j))
				if box.AlignGood(j, set) {
					placeIs(t, both, set, a, j, 2, api.OK)
					placeIs(t, both+" baseline", set, a, j, 2, api.OK)
					placeIs(t, both+" start", set, a, j, 2, api.OK)
				} else {
					placeIs(t, both, set, a, a, 1, api.OK)
				}
			}
		}
	}
}

func TestPlaceWords(t *testing.T) { // P10.1: words that are no alignment, as the first and as the second one
	for _, s := range []string{"baseline", "first", "last", "safe", "unsafe", "left", "right", "flex-start", "flex-end", "self-start", "self-end", "legacy", "inherit", "initial", "unset", "revert", "BaseLine"} {
		for _, set := range allSets() {
			placeIs(t, s, set, 0, 0, 0, api.ErrFeature)
			placeIs(t, s+" start", set, 0, 0, 0, api.ErrFeature)
			if box.AlignGood(api.AlignEnd, set) {
				placeIs(t, "end "+s, set, 0, 0, 1, api.ErrFeature)
				placeIs(t, "end "+s+" start", set, 0, 0, 1, api.ErrFeature)
			}
		}
	}
	for _, s := range []string{"x", "/", ";", ",", "1", "1px", "'start'", "start(", "baseline(", "none", "2em", "calc("} {
		placeIs(t, s, box.Items, 0, 0, 0, api.ErrSyntax)
		placeIs(t, s+" start", box.Items, 0, 0, 0, api.ErrSyntax)
		placeIs(t, "end "+s, box.Items, api.AlignEnd, api.AlignEnd, 1, api.OK)
		placeIs(t, "end "+s+" start", box.Items, api.AlignEnd, api.AlignEnd, 1, api.OK)
		placeIs(t, "end start "+s, box.Items, api.AlignEnd, api.AlignStart, 2, api.OK)
	}
	placeIs(t, "", box.Self, 0, 0, 0, api.ErrSyntax)
}

func TestPlaceText(t *testing.T) { // P10.1
	for a := range 12 {
		for j := range 12 {
			first, second := box.AlignText(a), box.AlignText(j)
			want := first + " " + second
			if first == "" || second == "" {
				want = ""
			} else if a == j {
				want = first
			}
			if got := shorthand.PlaceText(a, j); got != want {
				t.Errorf("%d, %d: %q, not %q", a, j, got, want)
			}
			for _, set := range []int{box.Self, box.Items, box.Content} {
				if box.AlignGood(a, set) && box.AlignGood(j, set) {
					placeIs(t, want, set, a, j, len(words(t, want))-1, api.OK)
				}
			}
		}
	}
	for _, k := range []int{math.MinInt, -1, math.MaxInt} {
		if a, b, c := shorthand.PlaceText(k, k), shorthand.PlaceText(k, api.AlignStart), shorthand.PlaceText(api.AlignStart, k); a+b+c != "" {
			t.Errorf("%d: %q, %q, %q", k, a, b, c)
		}
	}
	if got := shorthand.PlaceText(api.AlignAuto, api.AlignEvenly); got != "auto space-evenly" {
		t.Errorf("%q", got)
	}
}

func flowIs(t *testing.T, s string, column, dense bool, next int, want api.Errno) {
	t.Helper()
	for l, at := range surroundings(t, s) {
		if c, d, n, e := shorthand.Flow(l, at); c != column || d != dense || n != at+next || e != want {
			t.Errorf("Flow of %q at %d: %v, %v, %d, %d; not %v, %v, %d, %d", s, at, c, d, n, int(e), column, dense, at+next, int(want))
		}
	}
}

func TestFlow(t *testing.T) { // P10.2
	for _, x := range []struct {
		s             string
		column, dense bool
		next          int
	}{
		{"row", false, false, 1}, {"column", true, false, 1}, {"dense", false, true, 1}, {"ROW", false, false, 1}, {"Column", true, false, 1}, {"DENSE", false, true, 1},
		{"row dense", false, true, 2}, {"dense row", false, true, 2}, {"column dense", true, true, 2}, {"dense column", true, true, 2}, {"Dense COLUMN", true, true, 2}, {`\64 ense/**/c\6flumn`, true, true, 2},
		// a word that is not of it any more
		{"row row", false, false, 1}, {"row column", false, false, 1}, {"column row", true, false, 1}, {"column column", true, false, 1}, {"dense dense", false, true, 1},
		{"row row dense", false, false, 1}, {"row column dense", false, false, 1}, {"column row dense", true, false, 1}, {"dense dense column", false, true, 1},
		{"row dense column", false, true, 2}, {"row dense dense", false, true, 2}, {"dense row column", false, true, 2}, {"dense column row", true, true, 2}, {"dense column dense", true, true, 2}, {"column dense row", true, true, 2},
	} {
		flowIs(t, x.s, x.column, x.dense, x.next, api.OK)
		if text := shorthand.FlowText(x.column, x.dense); x.next == 2 && !strings.HasSuffix(text, " dense") {
			t.Errorf("%q: %q", x.s, text)
		}
	}
	for _, s := range []string{"inherit", "initial", "unset", "revert", "INHERIT", "Unset"} {
		flowIs(t, s, false, false, 0, api.ErrFeature)
		flowIs(t, s+" row", false, false, 0, api.ErrFeature)
		flowIs(t, "column "+s, true, false, 1, api.OK)
		flowIs(t, "dense "+s+" column", false, true, 1, api.OK)
		flowIs(t, "dense column "+s, true, true, 2, api.OK)
	}
	for _, s := range []string{"none", "rows", "auto", "1", "'row'", "row(", "inherit(", "'inherit'", "/", ";", "auto-flow", "2em", "calc(", "default", "start"} {
		flowIs(t, s, false, false, 0, api.ErrSyntax)
		flowIs(t, s+" row", false, false, 0, api.ErrSyntax)
		flowIs(t, "column "+s, true, false, 1, api.OK)
		flowIs(t, "dense "+s+" column", false, true, 1, api.OK)
		flowIs(t, "dense column "+s, true, true, 2, api.OK)
	}
	flowIs(t, "", false, false, 0, api.ErrSyntax)
}

func TestFlowText(t *testing.T) { // P10.2
	for _, x := range []struct {
		column, dense bool
		want          string
	}{{false, false, "row"}, {false, true, "row dense"}, {true, false, "column"}, {true, true, "column dense"}} {
		if got := shorthand.FlowText(x.column, x.dense); got != x.want {
			t.Errorf("%v, %v: %q, not %q", x.column, x.dense, got, x.want)
		}
		flowIs(t, x.want, x.column, x.dense, len(words(t, x.want))-1, api.OK)
	}
}

func TestPlaces(t *testing.T) { // P10.1 to P10.3: a place that is none counts as that of an end
	ended := words(t, "'a' none row start 1px / 1px")
	for _, l := range [][]api.Token{nil, {}, ended, ended[:7], ended[:1]} {
		for _, at := range noPlaces(len(l)) {
			for _, set := range allSets() {
				if a, j, n, e := shorthand.Place(l, at, set); a != 0 || j != 0 || n != at || e != api.ErrSyntax {
					t.Errorf("Place at %d of %d: %d, %d, %d, %d", at, len(l), a, j, n, int(e))
				}
			}
			if c, d, n, e := shorthand.Flow(l, at); c || d || n != at || e != api.ErrSyntax {
				t.Errorf("Flow at %d of %d: %v, %v, %d, %d", at, len(l), c, d, n, int(e))
			}
			if r, c, a, n, e := shorthand.Template(l, at); len(r)+len(c)+len(a) != 0 || n != at || e != api.ErrSyntax {
				t.Errorf("Template at %d of %d: %v, %v, %v, %d, %d", at, len(l), r, c, a, n, int(e))
			}
		}
	}
}

func TestForeignWords(t *testing.T) { // P10.1 to P10.3: words that no bytes make
	for _, word := range []api.Token{
		{}, {Kind: 9, Text: "row"}, {Kind: -1, Text: "["}, {Kind: math.MinInt, Text: "start"}, {Kind: api.TokEnd, Text: "dense"}, {Kind: api.TokSign, Text: "none"}, {Kind: api.TokSign, Text: "row"}, {Kind: api.TokFunc, Text: "none"}, {Kind: api.TokIdent}, {Kind: api.TokIdent, Text: "["}, {Kind: api.TokDim, Text: "px", Num: "abc"},
	} {
		l := []api.Token{word}
		if a, j, n, e := shorthand.Place(l, 0, box.Self); a != 0 || j != 0 || n != 0 || e != api.ErrSyntax {
			t.Errorf("Place of %v: %d, %d, %d, %d", word, a, j, n, int(e))
		}
		if c, d, n, e := shorthand.Flow(l, 0); c || d || n != 0 || e != api.ErrSyntax {
			t.Errorf("Flow of %v: %v, %v, %d, %d", word, c, d, n, int(e))
		}
		if r, c, a, n, e := shorthand.Template(l, 0); len(r)+len(c)+len(a) != 0 || n != 0 || e != api.ErrSyntax {
			t.Errorf("Template of %v: %v, %v, %v, %d, %d", word, r, c, a, n, int(e))
		}
		if r, c, a, n, e := shorthand.Template([]api.Token{{Kind: api.TokString, Text: "a"}, word}, 0); len(r) != 1 || len(c) != 0 || len(a) != 1 || n != 1 || e != api.OK {
			t.Errorf("Template with %v: %v, %v, %v, %d, %d", word, r, c, a, n, int(e))
		}
	}
}
