package track_test

import (
	"math"
	"slices"
	"strings"
	"testing"

	"parterre/api"
	"parterre/token"
	"parterre/track"
)

func px(n int) api.Len { return api.Len{Kind: api.LenPx, N: n * api.Unit} }

func pct(n int) api.Len { return api.Len{Kind: api.LenPct, N: n * api.Mille} }

func fr(n int) api.Len { return api.Len{Kind: api.LenFr, N: n * api.Mille} }

func kind(k int) api.Len { return api.Len{Kind: k} }

var (
	auto     = api.Len{Kind: api.LenAuto}
	least    = api.Len{Kind: api.LenMin}
	greatest = api.Len{Kind: api.LenMax}
)

func minmax(a, b api.Len) api.Track { return api.Track{Min: a, Max: b} }

func fit(v api.Len) api.Track { return api.Track{Min: auto, Max: greatest, Fit: true, Limit: v} }

func names(l ...string) api.Piece { return api.Piece{Kind: api.PieceNames, Names: l} }

func size(t api.Track) api.Piece { return api.Piece{Kind: api.PieceTrack, Track: t} }

func both(v api.Len) api.Piece { return size(minmax(v, v)) }

func flexible(n int) api.Piece { return size(minmax(auto, fr(n))) }

func repeat(n int, inner ...api.Piece) api.Piece {
	return api.Piece{Kind: api.PieceRepeat, Count: n, Inner: inner}
}

func fill(inner ...api.Piece) api.Piece { return api.Piece{Kind: api.PieceFill, Inner: inner} }

func fits(inner ...api.Piece) api.Piece { return api.Piece{Kind: api.PieceFit, Inner: inner} }

func list(l ...api.Piece) []api.Piece { return l }

// times tells a text so often, with blanks between.
func times(n int, s string) string { return strings.TrimSpace(strings.Repeat(s+" ", n)) }

// words tells the words of a text.
func words(t *testing.T, s string) []api.Token {
	t.Helper()
	l, _, e := token.Tokens([]byte(s))
	if e != api.OK {
		t.Fatalf("%.60q: %d", s, int(e))
	}
	return l
}

// short tells a text's beginning.
func short(s string) string { return s[:min(len(s), 80)] }

// surroundings yields the words of a text as they may be handed in: alone, without an end, with other words ahead; and the place where they begin.
func surroundings(t *testing.T, s string) func(yield func([]api.Token, int) bool) {
	l := words(t, s)
	ahead := words(t, "[ 1px none :")[:4]
	return func(yield func([]api.Token, int) bool) {
		_ = yield(l, 0) && yield(l[:len(l)-1], 0) && yield(append(ahead, l...), 4)
	}
}

// reads asks whether Template tells these pieces of a text, and so many words.
func reads(t *testing.T, s string, next int, want []api.Piece) {
	t.Helper()
	for l, at := range surroundings(t, s) {
		p, n, e := track.Template(l, at)
		if e != api.OK || n != at+next || !track.Same(p, want) || !equal(p, want) {
			t.Errorf("%s at %d: %v, %d, %d; not %v, %d", short(s), at, p, n, int(e), want, at+next)
		}
	}
}

// fails asks whether Template tells that error of a text, at that word.
func fails(t *testing.T, s string, place int, want api.Errno) {
	t.Helper()
	for l, at := range surroundings(t, s) {
		if p, n, e := track.Template(l, at); len(p) != 0 || n != at+place || e != want {
			t.Errorf("%s at %d: %v, %d, %d; not %d, %d", short(s), at, p, n, int(e), at+place, int(want))
		}
	}
}

// equal holds pieces against each other without the package's own Same.
func equal(a, b []api.Piece) bool {
	if len(a) != len(b) {
		return false
	}
	for i, p := range a {
		q := b[i]
		if p.Kind != q.Kind || p.Track != q.Track || p.Count != q.Count || !slices.Equal(p.Names, q.Names) || !equal(p.Inner, q.Inner) {
			return false
		}
	}
	return true
}

func TestExample(t *testing.T) {
	reads(t, "[a] 100px repeat(2, 1fr [b])", 12, list(names("a"), both(px(100)), repeat(2, flexible(1), names("b"))))
	fails(t, "repeat(auto-fill, 1fr)", 0, api.ErrSyntax)
}

func TestNames(t *testing.T) { // P6.1
	most := times(api.MaxNames, "a")
	long := strings.Repeat("x", api.MaxName)
	for s, want := range map[string][]string{
		"[]": nil, "[a]": {"a"}, "[a b a]": {"a", "b", "a"}, "[ a/**/B ]": {"a", "B"}, `[\31 a none inheritt]`: {"1a", "none", "inheritt"}, "[" + long + "]": {long}, "[" + most + "]": strings.Fields(most),
	} {
		for l, at := range surroundings(t, s+" 1px") {
			if r, n, e := track.Names(l, at); !slices.Equal(r, want) || n != at+len(want)+2 || e != api.OK {
				t.Errorf("%s: %q, %d, %d", s, r, n, int(e))
			}
		}
	}
	for _, x := range []struct {
		s     string
		place int
		e     api.Errno
	}{
		{"", 0, api.ErrSyntax}, {"a]", 0, api.ErrSyntax}, {"]", 0, api.ErrSyntax}, {"'['", 0, api.ErrSyntax}, {"(a)", 0, api.ErrSyntax}, {"1px", 0, api.ErrSyntax}, {"inherit", 0, api.ErrSyntax},
		{"[", 1, api.ErrSyntax}, {"[a", 2, api.ErrSyntax}, {"[a b ;", 3, api.ErrSyntax}, {"[a [b]]", 2, api.ErrSyntax}, {"[a, b]", 2, api.ErrSyntax},
		{"[a 1]", 2, api.ErrSyntax}, {"[1px]", 1, api.ErrSyntax}, {"['a']", 1, api.ErrSyntax}, {"[a(]", 1, api.ErrSyntax}, {"[1%]", 1, api.ErrSyntax},
		{"[span]", 1, api.ErrSyntax}, {"[a AUTO]", 2, api.ErrSyntax}, {"[initial]", 1, api.ErrSyntax}, {"[inherit]", 1, api.ErrSyntax}, {"[unset]", 1, api.ErrSyntax}, {"[Default]", 1, api.ErrSyntax}, {"[revert]", 1, api.ErrSyntax},
		{"[" + most + " b]", api.MaxNames + 1, api.ErrLimit}, {"[" + most + " b auto]", api.MaxNames + 1, api.ErrLimit}, {"[" + most, api.MaxNames + 1, api.ErrSyntax}, {"[auto " + most + "]", 1, api.ErrSyntax}, {"[" + most + " auto]", api.MaxNames + 1, api.ErrSyntax}, {"[" + most + " 1]", api.MaxNames + 1, api.ErrSyntax},
	} {
		for l, at := range surroundings(t, x.s) {
			if r, n, e := track.Names(l, at); len(r) != 0 || n != at+x.place || e != x.e {
				t.Errorf("%s: %q, %d, %d", x.s, r, n, int(e))
			}
		}
	}
	l := []api.Token{{Kind: api.TokSign, Text: "["}, {Kind: api.TokIdent, Text: long + "x"}, {Kind: api.TokSign, Text: "]"}}
	for _, text := range []string{"", long + "x", "a\x00"} {
		l[1].Text = text
		if r, n, e := track.Names(l, 0); len(r) != 0 || n != 1 || e != api.ErrSyntax {
			t.Errorf("%q: %q, %d, %d", text, r, n, int(e))
		}
	}
}

// tracks are the sizes of texts, each with how many words it has.
func tracks() map[string]struct {
	want  api.Track
	words int
} {
	return map[string]struct {
		want  api.Track
		words int
	}{
		"10px": {minmax(px(10), px(10)), 1}, "0": {minmax(px(0), px(0)), 1}, "50%": {minmax(pct(50), pct(50)), 1}, "auto": {minmax(auto, auto), 1}, "min-content": {minmax(least, least), 1}, "max-content": {minmax(greatest, greatest), 1},
		"1fr": {minmax(auto, fr(1)), 1}, "0fr": {minmax(auto, fr(0)), 1},
		"minmax(10px, 20%)": {minmax(px(10), pct(20)), 5}, "MinMax(auto,1FR)": {minmax(auto, fr(1)), 5}, "minmax( 0 , 0fr )": {minmax(px(0), fr(0)), 5}, "minmax(min-content, max-content)": {minmax(least, greatest), 5}, "minmax(auto, max-content)": {minmax(auto, greatest), 5}, "minmax(20px, 10px)": {minmax(px(20), px(10)), 5}, "minmax(50%, auto)": {minmax(pct(50), auto), 5}, "minmax(max-content, min-content)": {minmax(greatest, least), 5}, "minmax(auto, auto)": {minmax(auto, auto), 5},
		"fit-content(10px)": {fit(px(10)), 3}, "FIT-content( 50% )": {fit(pct(50)), 3}, "fit-content(0)": {fit(px(0)), 3},
	}
}

func TestSize(t *testing.T) { // P6.1, the section 'Words'
	for s, x := range tracks() {
		for l, at := range surroundings(t, s) {
			if r, n, e := track.Size(l, at); r != x.want || n != at+x.words || e != api.OK {
				t.Errorf("%s: %v, %d, %d", s, r, n, int(e))
			}
		}
	}
	for _, x := range []struct {
		s     string
		place int
		e     api.Errno
	}{
		{"", 0, api.ErrSyntax}, {"none", 0, api.ErrSyntax}, {"[a]", 0, api.ErrSyntax}, {"1", 0, api.ErrSyntax}, {"-1px", 0, api.ErrSyntax}, {"-1%", 0, api.ErrSyntax}, {"-1fr", 0, api.ErrSyntax}, {"repeat(2, 1px)", 0, api.ErrSyntax}, {"minmax", 0, api.ErrSyntax}, {"fit-content", 0, api.ErrSyntax}, {"subgrid", 0, api.ErrSyntax}, {")", 0, api.ErrSyntax}, {"'1px'", 0, api.ErrSyntax},
		{"1em", 0, api.ErrFeature}, {"calc(1px)", 0, api.ErrFeature}, {"inherit", 0, api.ErrFeature}, {"min(1px)", 0, api.ErrFeature}, {"1e99px", 0, api.ErrOver}, {"2000000%", 0, api.ErrOver}, {"2000000fr", 0, api.ErrOver},
		{"minmax(", 1, api.ErrSyntax}, {"minmax()", 1, api.ErrSyntax}, {"minmax(1fr, 1px)", 1, api.ErrSyntax}, {"minmax(-1px, 1px)", 1, api.ErrSyntax}, {"minmax(none, 1px)", 1, api.ErrSyntax}, {"minmax(1em, 1vh)", 1, api.ErrFeature}, {"minmax(1e99px, 1em)", 1, api.ErrOver}, {"minmax(minmax(1px, 1px), 1px)", 1, api.ErrSyntax}, {"minmax(fit-content(1px), 1px)", 1, api.ErrSyntax},
		{"minmax(1px", 2, api.ErrSyntax}, {"minmax(1px 1px)", 2, api.ErrSyntax}, {"minmax(1px)", 2, api.ErrSyntax}, {"minmax(1px / 1px)", 2, api.ErrSyntax},
		{"minmax(1px,", 3, api.ErrSyntax}, {"minmax(1px, )", 3, api.ErrSyntax}, {"minmax(1px, -1fr)", 3, api.ErrSyntax}, {"minmax(1px, none)", 3, api.ErrSyntax}, {"minmax(1px, 1em)", 3, api.ErrFeature}, {"minmax(1px, initial)", 3, api.ErrFeature}, {"minmax(1px, 1e99fr)", 3, api.ErrOver}, {"minmax(1px, fit-content(1px))", 3, api.ErrSyntax},
		{"minmax(1px, 1px", 4, api.ErrSyntax}, {"minmax(1px, 1px,", 4, api.ErrSyntax}, {"minmax(1px, 1px ]", 4, api.ErrSyntax}, {"minmax(1px, 1px 1em", 4, api.ErrSyntax},
		{"fit-content(", 1, api.ErrSyntax}, {"fit-content()", 1, api.ErrSyntax}, {"fit-content(auto)", 1, api.ErrSyntax}, {"fit-content(min-content)", 1, api.ErrSyntax}, {"fit-content(max-content)", 1, api.ErrSyntax}, {"fit-content(1fr)", 1, api.ErrSyntax}, {"fit-content(none)", 1, api.ErrSyntax}, {"fit-content(-1px)", 1, api.ErrSyntax}, {"fit-content(1em)", 1, api.ErrFeature}, {"fit-content(1e99%)", 1, api.ErrOver},
		{"fit-content(1px", 2, api.ErrSyntax}, {"fit-content(1px, 1px)", 2, api.ErrSyntax}, {"fit-content(1px 2px)", 2, api.ErrSyntax},
	} {
		for l, at := range surroundings(t, x.s) {
			if r, n, e := track.Size(l, at); r != (api.Track{}) || n != at+x.place || e != x.e {
				t.Errorf("%s: %v, %d, %d", x.s, r, n, int(e))
			}
		}
		if x.place > 0 { // a piece begins there, wherever it stands
			fails(t, x.s, x.place, x.e)
			fails(t, "1px "+x.s, 1+x.place, x.e)
			fails(t, "repeat(2, "+x.s, 3+x.place, x.e)
		}
	}
}

func TestSizes(t *testing.T) { // P6.1
	ten, half := minmax(px(10), px(10)), minmax(pct(50), pct(50))
	most := times(api.MaxPieces, "10px")
	for _, x := range []struct {
		s    string
		next int
		want []api.Track
	}{
		{"10px", 1, []api.Track{ten}}, {"10px 50% auto", 3, []api.Track{ten, half, minmax(auto, auto)}}, {"1fr minmax(10px, 50%) fit-content(10px) 10px", 10, []api.Track{minmax(auto, fr(1)), minmax(px(10), pct(50)), fit(px(10)), ten}},
		{"10px;", 1, []api.Track{ten}}, {"10px 50% [a] 10px", 2, []api.Track{ten, half}}, {"10px none", 1, []api.Track{ten}}, {"10px a", 1, []api.Track{ten}}, {"10px 1", 1, []api.Track{ten}}, {"10px, 10px", 1, []api.Track{ten}}, {"10px repeat(2, 10px)", 1, []api.Track{ten}}, {"10px minmax", 1, []api.Track{ten}}, {"10px -1px", 1, []api.Track{ten}}, {"10px / 50%", 1, []api.Track{ten}},
		{most, api.MaxPieces, slices.Repeat([]api.Track{ten}, api.MaxPieces)}, {most + " ; 10px", api.MaxPieces, slices.Repeat([]api.Track{ten}, api.MaxPieces)},
		{most + " repeat(2, 1px)", api.MaxPieces, slices.Repeat([]api.Track{ten}, api.MaxPieces)}, {most + " minmax", api.MaxPieces, slices.Repeat([]api.Track{ten}, api.MaxPieces)}, {most + " 2em 10px", api.MaxPieces, slices.Repeat([]api.Track{ten}, api.MaxPieces)}, {most + " 1e99px", api.MaxPieces, slices.Repeat([]api.Track{ten}, api.MaxPieces)}, {most + " -1px", api.MaxPieces, slices.Repeat([]api.Track{ten}, api.MaxPieces)},
	} {
		for l, at := range surroundings(t, x.s) {
			if r, n, e := track.Sizes(l, at); !slices.Equal(r, x.want) || n != at+x.next || e != api.OK {
				t.Errorf("%s: %v, %d, %d", short(x.s), r, n, int(e))
			}
		}
	}
	for _, x := range []struct {
		s     string
		place int
		e     api.Errno
	}{
		{"", 0, api.ErrSyntax}, {"none", 0, api.ErrSyntax}, {"[a] 1px", 0, api.ErrSyntax}, {"repeat(2, 1px)", 0, api.ErrSyntax}, {"-1px", 0, api.ErrSyntax}, {"1em", 0, api.ErrFeature}, {"calc(1px)", 0, api.ErrFeature}, {"unset", 0, api.ErrFeature}, {"1e99px", 0, api.ErrOver},
		{"minmax(1fr, 1px)", 1, api.ErrSyntax}, {"10px minmax(1px, 1em)", 4, api.ErrFeature}, {"10px fit-content(auto)", 2, api.ErrSyntax}, {"10px 1fr fit-content(1e99px)", 3, api.ErrOver}, {"10px minmax(1px", 3, api.ErrSyntax},
		{most + " 10px", api.MaxPieces, api.ErrLimit}, {most + " minmax(1px, 2px)", api.MaxPieces, api.ErrLimit}, {most + " fit-content(1px)", api.MaxPieces, api.ErrLimit},
		// a size begins there, whatever stands within
		{most + " minmax()", api.MaxPieces, api.ErrLimit}, {most + " MINMAX(", api.MaxPieces, api.ErrLimit}, {most + " minmax(1px, 2em)", api.MaxPieces, api.ErrLimit}, {most + " minmax(1px 1px)", api.MaxPieces, api.ErrLimit}, {most + " fit-content(2em)", api.MaxPieces, api.ErrLimit}, {most + " fit-content(", api.MaxPieces, api.ErrLimit}, {most + " fit-content(1e99px", api.MaxPieces, api.ErrLimit},
		{times(api.MaxPieces-1, "10px") + " minmax()", api.MaxPieces, api.ErrSyntax}, {times(api.MaxPieces-1, "10px") + " fit-content(2em)", api.MaxPieces, api.ErrFeature},
	} {
		for l, at := range surroundings(t, x.s) {
			if r, n, e := track.Sizes(l, at); len(r) != 0 || n != at+x.place || e != x.e {
				t.Errorf("%s: %v, %d, %d", short(x.s), r, n, int(e))
			}
		}
	}
}

func TestTemplate(t *testing.T) { // P6.2
	a, b, ten := names("a"), names("b"), both(px(10))
	reads(t, "none", 1, nil)
	reads(t, "NONE 10px", 1, nil)
	reads(t, "none none", 1, nil)
	reads(t, "10px", 1, list(ten))
	reads(t, "10px 10px 1fr", 3, list(ten, ten, flexible(1)))
	reads(t, "[a] 10px [b]", 7, list(a, ten, b))
	reads(t, "[a b] 10px [a]", 8, list(names("a", "b"), ten, a))
	reads(t, "10px [none subgrid]", 5, list(ten, names("none", "subgrid")))
	reads(t, "fit-content(10px) minmax(10px, 1fr)", 8, list(size(fit(px(10))), size(minmax(px(10), fr(1)))))
	// Empty brackets are no piece, and part none.
	reads(t, "[] 10px", 3, list(ten))
	reads(t, "10px []", 3, list(ten))
	reads(t, "[] [] 10px [] []", 9, list(ten))
	reads(t, "[a] [] 10px [] [b]", 11, list(a, ten, b))
	reads(t, "repeat(2, [] 10px [])", 9, list(repeat(2, ten)))
	reads(t, "repeat(2, 10px)", 5, list(repeat(2, ten)))
	reads(t, "repeat(1, 10px)", 5, list(repeat(1, ten)))
	reads(t, "REPEAT(+02, 10px)", 5, list(repeat(2, ten)))
	reads(t, "repeat(10000, 10px)", 5, list(repeat(api.MaxRepeat, ten)))
	reads(t, "repeat(2, [a] 10px [b] 1fr [a])", 15, list(repeat(2, a, ten, b, flexible(1), a)))
	reads(t, "[a] repeat(2, [a] 10px [b]) [b] repeat(3, 1fr)", 22, list(a, repeat(2, a, ten, b), b, repeat(3, flexible(1))))
	reads(t, "repeat(2, 10px) repeat(2, 10px)", 10, list(repeat(2, ten), repeat(2, ten)))
	reads(t, "repeat(auto-fill, 10px)", 5, list(fill(ten)))
	reads(t, "repeat(Auto-Fit, 10px 50%)", 6, list(fits(ten, both(pct(50)))))
	reads(t, "10px repeat(auto-fit, [a] minmax(10px, 1fr)) repeat(2, minmax(auto, 10px)) [b]", 25, list(ten, fits(a, size(minmax(px(10), fr(1)))), repeat(2, size(minmax(auto, px(10)))), b))
}

func TestEnd(t *testing.T) { // P6.2: words with which no piece begins
	ten := list(both(px(10)))
	for _, s := range []string{";", "/ 1fr", ",", "]", ")", "}", "a", "none", "subgrid", "masonry", "auto-fill", "repeat", "minmax", "1", "'a'", "-1px", "(", "span", "foo(1px)"} {
		reads(t, "10px "+s, 1, ten)
		reads(t, "[a] 10px [] "+s, 6, append(list(names("a")), ten...))
		reads(t, "repeat(2, 10px) "+s, 5, list(repeat(2, ten...)))
		fails(t, "[a] "+s, 3, api.ErrSyntax)
		if s != ")" {
			fails(t, "repeat(2, 10px "+s, 4, api.ErrSyntax)
		}
	}
}

// strays are words with which no piece of a repeat begins, and what value tells of them.
func strays() map[string]api.Errno {
	return map[string]api.Errno{
		"2em": api.ErrFeature, "1Q": api.ErrFeature, "calc(1px)": api.ErrFeature, "VAR(": api.ErrFeature, "inherit": api.ErrFeature, "revert": api.ErrFeature,
		"1e99px": api.ErrOver, "-1e99px": api.ErrOver, "2000000%": api.ErrOver, "2000000fr": api.ErrOver,
		"-1px": api.ErrSyntax, "-1%": api.ErrSyntax, "-2000000%": api.ErrSyntax, "-1fr": api.ErrSyntax, "3": api.ErrSyntax, "1.5": api.ErrSyntax, "1x": api.ErrSyntax, "a": api.ErrSyntax, "none": api.ErrSyntax, "span": api.ErrSyntax, "repeat(2, 1px)": api.ErrSyntax, "foo(": api.ErrSyntax,
		"'1px'": api.ErrSyntax, ";": api.ErrSyntax, ",": api.ErrSyntax, "]": api.ErrSyntax, "/": api.ErrSyntax, "(": api.ErrSyntax, strings.Repeat("0", 300) + "1px": api.ErrSyntax,
	}
}

func TestStrays(t *testing.T) { // P6.2: those of value go ahead of ErrSyntax
	ten, named := both(px(10)), list(names("a"), both(px(10)))
	for s, e := range strays() {
		for _, kind := range []string{"2", "auto-fill", "auto-fit"} {
			fails(t, "repeat("+kind+", 10px "+s+")", 4, e)
			fails(t, "repeat("+kind+", 10px 10px "+s+" 10px)", 5, e)
			fails(t, "repeat("+kind+", 10px [a] "+s+")", 7, e)
			fails(t, "repeat("+kind+", minmax(10px, 10px) [] "+s+")", 10, e)
			fails(t, "10px repeat("+kind+", [a] 10px "+s+")", 8, e)
			fails(t, "repeat("+kind+", "+s+" 10px)", 3, e)
			fails(t, "repeat("+kind+", [a] "+s+" 10px)", 6, e)
			fails(t, "[a] repeat("+kind+", [] "+s+" 10px)", 8, e)
		}
		if s == "repeat(2, 1px)" {
			continue // a piece, unless it stands within another one
		}
		fails(t, "[a] "+s, 3, e)
		reads(t, "10px "+s, 1, list(ten))
		reads(t, "[a] 10px "+s+" 10px", 4, named)
		reads(t, "repeat(2, 10px) "+s, 5, list(repeat(2, ten)))
	}
}

func TestLongNumbers(t *testing.T) { // P6.1, P6.2: what value tells of them
	last, beyond := strings.Repeat("0", 299)+"1", strings.Repeat("0", 300)+"1"
	one := minmax(px(1), px(1))
	for _, unit := range []string{"px", "%", "fr"} {
		l := words(t, beyond+unit)
		if r, n, e := track.Size(l, 0); r != (api.Track{}) || n != 0 || e != api.ErrSyntax {
			t.Errorf("Size, %s: %v, %d, %d", unit, r, n, int(e))
		}
		if r, n, e := track.Sizes(l, 0); len(r) != 0 || n != 0 || e != api.ErrSyntax {
			t.Errorf("Sizes, %s: %v, %d, %d", unit, r, n, int(e))
		}
		if r, n, e := track.Sizes(words(t, "1px "+beyond+unit), 0); !slices.Equal(r, []api.Track{one}) || n != 1 || e != api.OK {
			t.Errorf("Sizes behind a size, %s: %v, %d, %d", unit, r, n, int(e))
		}
		fails(t, beyond+unit, 0, api.ErrSyntax)
		fails(t, "minmax("+beyond+unit+", 1px)", 1, api.ErrSyntax)
		fails(t, "minmax(1px, "+beyond+unit+")", 3, api.ErrSyntax)
		fails(t, "fit-content("+beyond+unit+")", 1, api.ErrSyntax)
		reads(t, "1px "+beyond+unit, 1, list(size(one)))
	}
	reads(t, last+"px "+last+"%", 2, list(size(one), both(pct(1))))
	reads(t, "repeat("+last+", 1px)", 5, list(repeat(1, size(one))))
	fails(t, "repeat("+beyond+", 1px)", 1, api.ErrSyntax)
	fails(t, "repeat(-"+last+", 1px)", 1, api.ErrSyntax)
	fails(t, "repeat("+strings.Repeat("9", 300)+", 1px)", 1, api.ErrOver)
	fails(t, "repeat(-"+strings.Repeat("9", 299)+", 1px)", 1, api.ErrOver)
	for _, num := range []string{"", "abc", "--1", "+"} {
		l := []api.Token{{Kind: api.TokFunc, Text: "repeat"}, {Kind: api.TokNum, Num: num}, {Kind: api.TokSign, Text: ","}, {Kind: api.TokNum, Num: "0"}, {Kind: api.TokSign, Text: ")"}}
		if p, n, e := track.Template(l, 0); len(p) != 0 || n != 1 || e != api.ErrSyntax {
			t.Errorf("repeat(%s: %v, %d, %d", num, p, n, int(e))
		}
	}
}

func TestTemplateErrors(t *testing.T) { // P6.2
	for _, x := range []struct {
		s     string
		place int
		e     api.Errno
	}{
		{"subgrid", 0, api.ErrFeature}, {"SubGrid [a]", 0, api.ErrFeature}, {"masonry", 0, api.ErrFeature}, {"subgrid(1px)", 0, api.ErrSyntax}, {"'none'", 0, api.ErrSyntax}, {"none(", 0, api.ErrSyntax},
		{"", 0, api.ErrSyntax}, {";", 0, api.ErrSyntax}, {"a", 0, api.ErrSyntax}, {"1", 0, api.ErrSyntax}, {"-1px", 0, api.ErrSyntax}, {"-1fr", 0, api.ErrSyntax}, {"auto-fill", 0, api.ErrSyntax}, {"repeat", 0, api.ErrSyntax}, {"1em", 0, api.ErrFeature}, {"calc(1px)", 0, api.ErrFeature}, {"inherit", 0, api.ErrFeature}, {"1e99px", 0, api.ErrOver}, {"2000000fr", 0, api.ErrOver},
		// names
		{"[", 1, api.ErrSyntax}, {"[a", 2, api.ErrSyntax}, {"10px [a", 3, api.ErrSyntax}, {"[auto] 10px", 1, api.ErrSyntax}, {"10px [a 1]", 3, api.ErrSyntax}, {"10px [a repeat(", 3, api.ErrSyntax}, {"10px [[a]]", 2, api.ErrSyntax},
		{"[a] [b] 10px", 3, api.ErrSyntax}, {"10px [a] [b]", 4, api.ErrSyntax}, {"10px [a] [] [b]", 6, api.ErrSyntax}, {"[a b] [a] 10px", 4, api.ErrSyntax}, {"repeat(2, [a] [b] 10px)", 6, api.ErrSyntax}, {"repeat(2, 10px [a] [b])", 7, api.ErrSyntax}, {"10px [" + times(api.MaxNames+1, "a") + "]", api.MaxNames + 2, api.ErrLimit}, {"repeat(2, [" + times(api.MaxNames+1, "a") + "] 10px)", api.MaxNames + 4, api.ErrLimit},
		// want of a track
		{"[]", 2, api.ErrSyntax}, {"[a]", 3, api.ErrSyntax}, {"[a] ; 10px", 3, api.ErrSyntax}, {"[a] []", 5, api.ErrSyntax}, {"repeat(2, )", 3, api.ErrSyntax}, {"repeat(2, [])", 5, api.ErrSyntax}, {"repeat(2, [a])", 6, api.ErrSyntax}, {"repeat(2, [a] ;", 6, api.ErrSyntax}, {"repeat(auto-fill, [a])", 6, api.ErrSyntax}, {"10px repeat(2, [a])", 7, api.ErrSyntax},
		// repeats
		{"repeat(", 1, api.ErrSyntax}, {"repeat()", 1, api.ErrSyntax}, {"repeat(, 10px)", 1, api.ErrSyntax}, {"repeat(a, 10px)", 1, api.ErrSyntax}, {"repeat(auto, 10px)", 1, api.ErrSyntax}, {"repeat('auto-fill', 10px)", 1, api.ErrSyntax}, {"repeat(2px, 10px)", 1, api.ErrSyntax}, {"repeat(1.0, 10px)", 1, api.ErrSyntax}, {"repeat(1e0, 10px)", 1, api.ErrSyntax}, {"repeat(20%, 10px)", 1, api.ErrSyntax},
		{"repeat(0, 10px)", 1, api.ErrSyntax}, {"repeat(-1, 10px)", 1, api.ErrSyntax}, {"repeat(-10001, 10px)", 1, api.ErrSyntax}, {"repeat(10001, 10px)", 1, api.ErrLimit}, {"repeat(68719476736, 10px)", 1, api.ErrLimit}, {"repeat(68719476737, 10px)", 1, api.ErrOver}, {"10px repeat(10001, 10px)", 2, api.ErrLimit},
		{"repeat(2", 2, api.ErrSyntax}, {"repeat(2 10px)", 2, api.ErrSyntax}, {"repeat(2)", 2, api.ErrSyntax}, {"repeat(2 / 10px)", 2, api.ErrSyntax}, {"repeat(2 3, 10px)", 2, api.ErrSyntax}, {"repeat(auto-fill auto-fit, 10px)", 2, api.ErrSyntax},
		{"repeat(2,", 3, api.ErrSyntax}, {"repeat(2, none)", 3, api.ErrSyntax}, {"repeat(2, 3, 10px)", 3, api.ErrSyntax}, {"repeat(2, repeat(2, 10px))", 3, api.ErrSyntax}, {"repeat(2, repeat(auto-fill, 10px))", 3, api.ErrSyntax}, {"repeat(2, 1em)", 3, api.ErrFeature}, {"repeat(2, [auto] 10px)", 4, api.ErrSyntax}, {"repeat(2, -1px)", 3, api.ErrSyntax}, {"repeat(2, minmax(1px, 1em))", 6, api.ErrFeature},
		{"repeat(2, 10px", 4, api.ErrSyntax}, {"repeat(2, 10px;", 4, api.ErrSyntax}, {"repeat(2, 10px]", 4, api.ErrSyntax}, {"repeat(2, 10px, 10px)", 4, api.ErrSyntax}, {"repeat(2, 10px repeat(2, 10px))", 4, api.ErrSyntax}, {"repeat(2, 10px [a]", 7, api.ErrSyntax},
		// auto-repeats
		{"repeat(auto-fill, 10px) repeat(auto-fill, 10px)", 5, api.ErrSyntax}, {"repeat(auto-fit, 10px) repeat(auto-fit, 10px)", 5, api.ErrSyntax}, {"repeat(auto-fill, 10px) 10px [a] repeat(auto-fit, 10px)", 9, api.ErrSyntax}, {"repeat(auto-fit, 10px) repeat(2, 10px) repeat(auto-fill, 10px)", 10, api.ErrSyntax},
	} {
		fails(t, x.s, x.place, x.e)
	}
}

func TestNotFixed(t *testing.T) { // P6.2
	for _, s := range []string{"1fr", "auto", "min-content", "max-content", "fit-content(10px)", "minmax(auto, 1fr)", "minmax(auto, max-content)", "minmax(min-content, auto)"} {
		for _, kind := range []string{"auto-fill", "auto-fit"} {
			fails(t, "repeat("+kind+", "+s+")", 0, api.ErrSyntax)
			fails(t, "repeat("+kind+", 10px [a] "+s+" 10px)", 0, api.ErrSyntax)
			fails(t, s+" repeat("+kind+", 10px)", 0, api.ErrSyntax)
			fails(t, "[a] 10px repeat("+kind+", 10px) "+s+" [b]", 0, api.ErrSyntax)
			fails(t, "repeat("+kind+", 10px) repeat(2, 10px "+s+")", 0, api.ErrSyntax)
			fails(t, "repeat(2, "+s+") repeat("+kind+", 10px)", 0, api.ErrSyntax)
		}
		if _, _, e := track.Template(words(t, "10px repeat(2, 10px "+s+") "+s), 0); e != api.OK {
			t.Errorf("%s without an auto-repeat: %d", s, int(e))
		}
	}
	for _, s := range []string{"10px", "0", "50%", "minmax(10px, 1fr)", "minmax(50%, auto)", "minmax(auto, 10px)", "minmax(max-content, 50%)", "minmax(10px, 50%)"} {
		for _, all := range []string{"repeat(auto-fill, " + s + ")", s + " repeat(auto-fit, 10px)", "repeat(auto-fit, 10px) repeat(2, " + s + ")"} {
			if _, _, e := track.Template(words(t, all), 0); e != api.OK {
				t.Errorf("%s: %d", all, int(e))
			}
		}
	}
}

func TestMaxPieces(t *testing.T) { // P6.2
	const most = api.MaxPieces
	ten := both(px(10))
	tens := func(n int) []api.Piece { return slices.Repeat(list(ten), n) }
	text := func(n int) string { return times(n, "10px") }
	reads(t, text(most), most, tens(most))
	reads(t, text(most)+" []", most+2, tens(most))
	reads(t, text(most)+" a", most, tens(most))
	reads(t, times(most/2, "[a] 10px"), most*2, slices.Repeat(list(names("a"), ten), most/2))
	reads(t, text(most-1)+" [a]", most+2, append(tens(most-1), names("a")))
	reads(t, text(most-2)+" repeat(2, 10px)", most+3, append(tens(most-2), repeat(2, ten)))
	reads(t, "repeat(2, "+text(most-1)+")", most+3, list(repeat(2, tens(most-1)...)))
	reads(t, "repeat(10000, 10px) "+text(most-2), most+3, append(list(repeat(10000, ten)), tens(most-2)...))
	for _, x := range []struct {
		s     string
		place int
		e     api.Errno
	}{
		{text(most + 1), most, api.ErrLimit}, {text(most) + " minmax(1px, 2px)", most, api.ErrLimit}, {text(most) + " [a]", most, api.ErrLimit}, {text(most) + " [] 10px", most + 2, api.ErrLimit}, {times(most/2, "[a] 10px") + " 10px", most * 2, api.ErrLimit},
		{text(most) + " repeat(2, 10px)", most, api.ErrLimit}, {text(most-1) + " repeat(2, 10px)", most + 2, api.ErrLimit}, {text(most-2) + " repeat(2, 10px [a])", most + 2, api.ErrLimit}, {text(most-2) + " repeat(2, [a] 10px)", most + 4, api.ErrLimit}, {text(most-2) + " repeat(2, 10px) 10px", most + 3, api.ErrLimit},
		{"repeat(2, " + text(most) + ")", most + 2, api.ErrLimit}, {"repeat(auto-fill, " + text(most-1) + ") 10px", most + 3, api.ErrLimit}, {times(most/2, "repeat(2, 10px)") + " 10px", most / 2 * 5, api.ErrLimit},
		// Names and sizes are read ahead of it, a repeat is not.
		{text(most) + " [auto]", most + 1, api.ErrSyntax}, {text(most) + " minmax(1px, 1em)", most + 3, api.ErrFeature}, {text(most) + " minmax(1px", most + 2, api.ErrSyntax}, {text(most) + " repeat(0, 1em", most, api.ErrLimit}, {text(most) + " repeat(", most, api.ErrLimit},
	} {
		fails(t, x.s, x.place, x.e)
	}
}

func TestPlaces(t *testing.T) { // the section 'Words' on readers
	ended := words(t, "10px [a] repeat(2, 10px)")
	for _, l := range [][]api.Token{nil, {}, ended, ended[:4], ended[:1]} {
		for _, at := range []int{math.MinInt, -2, -1, len(l), len(l) + 1, math.MaxInt - 1, math.MaxInt} {
			if p, n, e := track.Template(l, at); len(p) != 0 || n != at || e != api.ErrSyntax {
				t.Errorf("Template at %d of %d: %v, %d, %d", at, len(l), p, n, int(e))
			}
			if p, n, e := track.Sizes(l, at); len(p) != 0 || n != at || e != api.ErrSyntax {
				t.Errorf("Sizes at %d of %d: %v, %d, %d", at, len(l), p, n, int(e))
			}
			if p, n, e := track.Size(l, at); p != (api.Track{}) || n != at || e != api.ErrSyntax {
				t.Errorf("Size at %d of %d: %v, %d, %d", at, len(l), p, n, int(e))
			}
			if p, n, e := track.Names(l, at); len(p) != 0 || n != at || e != api.ErrSyntax {
				t.Errorf("Names at %d of %d: %v, %d, %d", at, len(l), p, n, int(e))
			}
		}
	}
	// What lies behind a list's length is not read.
	if _, n, e := track.Template(ended[:8], 0); n != 8 || e != api.ErrSyntax {
		t.Error("cut off in a repeat:", n, int(e))
	}
	if p, n, e := track.Template(ended[:4], 0); len(p) != 2 || n != 4 || e != api.OK {
		t.Error("cut off ahead of a repeat:", p, n, int(e))
	}
}
